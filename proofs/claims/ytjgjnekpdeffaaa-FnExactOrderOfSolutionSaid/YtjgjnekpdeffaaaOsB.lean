import Derived.Test.YtjgjnekpdeffaaaProg
import Derived.Test.YtjgjnekpdeffaaaMem
import Derived.Maps.Own
import Derived.Maps.Views
import Derived.WideKeyEntry
import Derived.DeepKeys4
import Derived.MapViews
import Derived.WalkArith
import Derived.Test.YtjgjnekpdeffaaaLst
import Derived.Test.YtjgjnekpdeffaaaBlk
import Derived.Test.YtjgjnekpdeffaaaZEnd
import Derived.Test.YtjgjnekpdeffaaaColF
import Derived.Test.YtjgjnekpdeffaaaEqF
import Derived.Test.YtjgjnekpdeffaaaTabRes
import Derived.Test.YtjgjnekpdeffaaaOwn
import Derived.Test.YtjgjnekpdeffaaaLeadI
import Derived.Test.YtjgjnekpdeffaaaSizeI
import Derived.Test.YtjgjnekpdeffaaaReads
import Derived.Test.YtjgjnekpdeffaaaPairsI
import Derived.Test.YtjgjnekpdeffaaaIsF
import Derived.Test.YtjgjnekpdeffaaaFltI
import Derived.Test.YtjgjnekpdeffaaaMapI
import Derived.Test.YtjgjnekpdeffaaaMapS
import Derived.Test.YtjgjnekpdeffaaaHeld
import Derived.Test.YtjgjnekpdeffaaaPairF
import Derived.Test.YtjgjnekpdeffaaaFltS
import Derived.BigRegion
import Derived.IntWalk
import Derived.Test.YtjgjnekpdeffaaaPig
namespace Go.Proofs.Ytjgjnekpdeffaaa
open Go Go.RowKit Go.ChangeShapes Go.WideShapes
open Go.ChangeMaps (setBlock heap_setBlock_same heap_setBlock_other)
open Go.WideElems (Fit)
open Classical
set_option maxRecDepth 100000

/-- An element of a map reads as itself. -/
def tokR : Value → Option (DataW Value × List MemPlace) := fun v => some (.held v, [])
def pkey (x y : Nat) : Value := .agg #[.int .i64 x, .int .i64 y]
theorem pkey_inj {x y u v : Nat} (h : pkey x y = pkey u v) : x = u ∧ y = v := by
  unfold pkey at h
  injection h with h
  injection h with h
  injection h with h1 h2
  injection h2 with h2 _
  injection h1 with _ h1
  injection h2 with _ h2
  omega
theorem mp_laid : laidOutB Try.prog = true := by kernel_rfl
theorem mp_row : (72 : TypeId) < Try.prog.types.size := of_decide_eq_true (by kernel_rfl)
theorem mp_deep : Try.prog.keyTypeAt (Try.prog.types.size + 1) 72 = true := by kernel_rfl
theorem mp_wide : (match Try.prog.underlying 72 with | some (.array _ _) | some (.struct _) => true | _ => false) = true := by rw [Try.underlying72]
theorem mp_law : WideMaps.KeyLaw Try.prog 72 := deep_law_laid mp_laid (m := 2) (by omega) mp_row (by kernel_rfl) mp_wide
theorem mp_keyed : Maps.Keyed Try.prog 72 := Maps.Keyed.of_law mp_law
theorem mp_cells : Try.prog.cellsOf 72 = 2 := by kernel_rfl
theorem mp_cellsI : Try.prog.cellsOf 2 = 1 := by kernel_rfl
theorem mp_key (w : World) (x y : Nat) (hx : x < 4611686018427387904) (hy : y < 4611686018427387904) : ∃ kl, keyOf Try.prog 72 (pkey x y) = some kl := by
  have hf : (pkey x y).formed Try.prog 72 = true := by simp [pkey, Value.formed, Try.underlying72, mp_cells]
  have wx : (Lit.int .i64 (x : Int)).wf = true := WalkArith.wf_i64 (by omega)
  have wy : (Lit.int .i64 (y : Int)).wf = true := WalkArith.wf_i64 (by omega)
  have ht := trod_struct2_mk (H := Unit) (enc := fun _ => ()) (P := Try.prog) (w := w) (base := 0) (spare := fun _ => true) (held := true) (n := 1) (cs := [.int .i64 (x : Int), .int .i64 (y : Int)]) Try.underlying72 mp_cells.symm
    (by show DataW.trod _ _ _ _ _ _ 1 2 (([Value.int .i64 (x : Int), .int .i64 (y : Int)].drop 0).take (Try.prog.cellsOf 2)) = _; rw [mp_cellsI]; exact trod_int_mk 0 Try.underlying2 wx)
    (by show DataW.trod _ _ _ _ _ _ 1 2 (([Value.int .i64 (x : Int), .int .i64 (y : Int)].drop 1).take (Try.prog.cellsOf 2)) = _; rw [mp_cellsI]; exact trod_int_mk 0 Try.underlying2 wy)
  exact ⟨_, (keyOf_asKey mp_deep mp_wide hf ⟨_, by simpa [pkey, Value.cells] using ht⟩).1⟩

/-- Block b is a map keyed by pairs, of at most n entries, whose values are V. -/
def MapV (w : World) (b n : Nat) (V : Value → Option Value) : Prop :=
  ∃ D : DataW Value, w.ownsMap Try.prog 72 tokR b n D ∧ ∀ key kl, keyOf Try.prog 72 key = some kl → D.atKey kl .nil = (match V key with | some v => .held v | none => .nil)

theorem MapV.made (w : World) : MapV (w.alloc (.map #[] 0)) w.heap.size 0 (fun _ => none) := ⟨_, World.ownsMap_made w _ _ _, fun _ _ _ => rfl⟩
theorem MapV.lt {w : World} {b n : Nat} {V : Value → Option Value} (h : MapV w b n V) : b < w.heap.size := h.elim fun _ h => h.1.lt
theorem MapV.of_block {w w' : World} {b n : Nat} {V : Value → Option Value} (h : MapV w b n V) (e : w'.heap[b]? = w.heap[b]?) : MapV w' b n V := by
  obtain ⟨D, ⟨es, clock, hb, F, hs, hD⟩, hV⟩ := h
  exact ⟨D, ⟨es, clock, e.trans hb, F, hs, hD⟩, hV⟩
theorem MapV.later {w w' : World} {b n : Nat} {V : Value → Option Value} (h : MapV w b n V) (hb : Below w.heap.size w w') : MapV w' b n V := h.of_block (hb.block b h.lt)
theorem MapV.congr {w : World} {b n : Nat} {V V' : Value → Option Value} (h : MapV w b n V) (e : ∀ k, V k = V' k) : MapV w b n V' := by
  have e2 : V = V' := funext e
  rw [← e2]; exact h

theorem MapV.look {w : World} {b n : Nat} {V : Value → Option Value} {t e : TypeId} (h : MapV w b n V) (ht : Try.prog.underlying t = some (.map 72 e)) {z : Value} (hz : (zeroValue e).run Try.prog w = .ok z w) {key : Value} {kl : Lit} (hkey : keyOf Try.prog 72 key = some kl) :
    (Instr.lookup t (.map (some b)) key false).run Try.prog w = .ok ((V key).getD z) w := by
  obtain ⟨D, ⟨es, clock, hb, F, hs, rfl⟩, hV⟩ := h
  have hk := hV key kl hkey
  rcases Maps.fit_look false mp_keyed ht hz hb F hkey with ⟨hrun, _, hat⟩ | ⟨e0, y, _, _, hrun, hR, hat, _⟩
  · rw [hat] at hk
    cases e : V key with
    | none => simpa using hrun
    | some v => rw [e] at hk; cases hk
  · rw [hat] at hk
    have hy : y = (.held e0.val, []) := by unfold tokR at hR; injection hR with hR; exact hR.symm
    subst hy
    cases e : V key with
    | none => rw [e] at hk; cases hk
    | some v =>
      rw [e] at hk
      injection hk with hk
      rw [← hk]
      simpa using hrun

theorem MapV.entry {w : World} {b n : Nat} {V : Value → Option Value} {t e : TypeId} (h : MapV w b n V) (ht : Try.prog.underlying t = some (.map 72 e)) {z : Value} (hz : ∀ u : World, (zeroValue e).run Try.prog u = .ok z u) (hn : n < maxLen) {key : Value} {kl : Lit} (hkey : keyOf Try.prog 72 key = some kl) :
    ∃ st es1 clock1, (Instr.mapEntry t (.map (some b)) key).run Try.prog w = .ok (.tuple #[(V key).getD z, goInt st]) (setBlock w b (.map es1 clock1)) ∧
      ∀ (w2 : World) (val : Value), w2.heap[b]? = some (.map es1 clock1) → ∃ es' clock', (Instr.entryStore t (.map (some b)) (goInt st) val).run Try.prog w2 = .ok () (setBlock w2 b (.map es' clock')) ∧
        MapV (setBlock w2 b (.map es' clock')) b (n + 1) (fun k => if k = key then some val else V k) := by
  have hlook := h.look ht (hz w) hkey
  obtain ⟨D, how, hV⟩ := h
  have how0 := how
  obtain ⟨es, clock, hb, F, hs, rfl⟩ := how
  obtain ⟨v0, st, es1, clock1, hE, hcase, hS⟩ := WideElems.entry_then_store mp_law ht hz hb F hkey
  have hv0 : v0 = (V key).getD z := by
    have hk := hV key kl hkey
    rcases Maps.fit_look false mp_keyed ht (hz w) hb F hkey with ⟨_, hno, hat⟩ | ⟨e0, y, hm0, hk0, hrun, hR, hat, _⟩
    · rw [hat] at hk
      rcases hcase with ⟨e1, hm1, hk1, _⟩ | ⟨_, e1⟩
      · exact absurd hk1 (hno e1 hm1)
      · cases e : V key with
        | none => rw [e1]; rfl
        | some v => rw [e] at hk; cases hk
    · rcases hcase with ⟨e1, hm1, hk1, hv1⟩ | ⟨hno, _⟩
      · have hnd := F.stamped.2.2
        have he : e0 = e1 := by
          obtain ⟨i, hi, hi2⟩ := List.getElem_of_mem hm0
          obtain ⟨j, hj, hj2⟩ := List.getElem_of_mem hm1
          have hij : i = j := by
            have e : (es.toList.map (·.key))[i]'(by simpa using hi) = (es.toList.map (·.key))[j]'(by simpa using hj) := by
              simp only [List.getElem_map]
              rw [hi2, hj2, hk0, hk1]
            exact (List.getElem_inj hnd).1 e
          subst hij
          rw [← hi2, hj2]
        have h2 := hrun.symm.trans hlook
        simp at h2
        rw [hv1, ← he]
        exact h2
      · exact absurd hk0 (hno e0 hm0)
  refine ⟨st, es1, clock1, by rw [← hv0]; exact hE, fun w2 val hw2 => ?_⟩
  obtain ⟨es', clock', hrun2, hU⟩ := hS w2 val hw2
  refine ⟨es', clock', hrun2, ?_⟩
  obtain ⟨w', hU2, how2, _⟩ := how0.update mp_keyed ht hn hkey (show tokR val = some (.held val, []) from rfl)
  have hw' : w' = setBlock w b (.map es' clock') := by
    have h2 := hU2.symm.trans hU
    simpa using h2
  subst hw'
  refine MapV.of_block (w := setBlock w b (.map es' clock')) ⟨_, how2, fun key' kl' hkey' => ?_⟩ ?_
  · by_cases e : key' = key
    · subst e
      have e2 : kl' = kl := by rw [hkey] at hkey'; injection hkey' with hkey'; exact hkey'.symm
      subst e2
      rw [Maps.atKey_put_same ⟨_, rfl⟩ (mp_keyed.key hkey)]
      simp
    · have hne : kl' ≠ kl := fun e2 => e (mp_keyed.inj hkey' (e2 ▸ hkey))
      rw [Maps.atKey_put_other hne, hV key' kl' hkey']
      simp [e]
  · rw [heap_setBlock_same hw2, heap_setBlock_same hb]
end Go.Proofs.Ytjgjnekpdeffaaa
namespace Go.Proofs.Ytjgjnekpdeffaaa
open Go Go.RowKit

section
variable {ts t tz : TypeId} {B : Nat} {w w' w1 : World} {v v' : Value} {rows : List (List Int)} {vals : List Value}

theorem own_type {n : Nat} {xs : List Value} (h : w.ownsRow B ts 1 v n xs) {g : Nat} (hg : v.ownBlock = some g) : g < w.heap.size ∧ B ≤ g ∧ ∃ cur : Array Value, w.heap[g]? = some (.cells cur ts (0, 0)) := by
  rcases h.2 with ⟨hv, _⟩ | ⟨g', cap, cur, hv, h1, hh, _⟩
  · rw [hv] at hg; cases hg
  · rw [hv] at hg
    have e : g' = g := by simpa [Value.ownBlock] using hg
    subst e
    exact ⟨(Array.getElem?_eq_some_iff.1 hh).1, h1, cur, hh⟩

theorem own_form {n : Nat} {xs : List Value} (h : w.ownsRow B ts 1 v (n + 1) xs) : ∃ g cap, v = .slice (some ⟨g, 0, none⟩) (n + 1) cap := by
  rcases h.2 with ⟨_, h0⟩ | ⟨g, cap, cur, hv, _⟩
  · omega
  · exact ⟨g, cap, hv⟩

theorem LstV.beside {o : Option Nat} (h : LstV ts t B w v rows vals) (hg : w.grownBy w' o) (hv : v.ownBlock = none ∨ v.ownBlock ≠ o) (hk : KeepT t w w') : LstV ts t B w' v rows vals :=
  ⟨h.own.kept hg hv, fun i hi => by
    obtain ⟨A, c, h1, h2⟩ := h.row i hi
    exact ⟨A, c, h1, (hk.obj h2).mono (Nat.le_refl _) hg.size⟩, h.ne⟩

/-- Two lists of rows that the call builds by append, in the box ob. -/
structure Two (ts t tz : TypeId) (B : Nat) (w : World) (ob : Nat) (v1 v2 : Value) (rows1 rows2 : List (List Int)) (vals1 vals2 : List Value) : Prop where
  box : Blk w ob tz [v1, v2]
  low : ob < B
  bsz : B ≤ w.heap.size
  l1 : LstV ts t B w v1 rows1 vals1
  l2 : LstV ts t B w v2 rows2 vals2
  ne : ∀ g, v1.ownBlock = some g → v2.ownBlock ≠ some g

variable {ob : Nat} {v1 v2 : Value} {rows1 rows2 : List (List Int)} {vals1 vals2 : List Value}

theorem Two.later (h : Two ts t tz B w ob v1 v2 rows1 rows2 vals1 vals2) (hb : Below w.heap.size w w') : Two ts t tz B w' ob v1 v2 rows1 rows2 vals1 vals2 :=
  ⟨h.box.later hb, h.low, Nat.le_trans h.bsz hb.size, h.l1.later hb, h.l2.later hb, h.ne⟩

theorem store_low (h : LstV ts t B w v rows vals) (hl : ob < B) (i : Nat) (u : Value) : LstV ts t B (w.setCell ⟨ob, i, none⟩ u) v rows vals :=
  h.of_blocks (fun k hk _ => Below.heap_setCell w ⟨ob, i, none⟩ u k (by show k ≠ ob; omega)) (by simp [World.setCell])

theorem Two.kept1 {tmp : Obj} (h : Two ts t tz B w ob v1 v2 rows1 rows2 vals1 vals2) (hg : (w.alloc tmp).grownBy w1 v1.ownBlock) : Blk w1 ob tz [v1, v2] :=
  (hg.block ob (by have := h.box.lt; simp; omega) (fun e => by
    have := (own_type h.l1.own e.symm).2.1
    have := h.low
    omega)).trans (h.box.later ((Below.refl _ _).alloc (Nat.le_refl _) _))
theorem Two.kept2 {tmp : Obj} (h : Two ts t tz B w ob v1 v2 rows1 rows2 vals1 vals2) (hg : (w.alloc tmp).grownBy w1 v2.ownBlock) : Blk w1 ob tz [v1, v2] :=
  (hg.block ob (by have := h.box.lt; simp; omega) (fun e => by
    have := (own_type h.l2.own e.symm).2.1
    have := h.low
    omega)).trans (h.box.later ((Below.refl _ _).alloc (Nat.le_refl _) _))

/-- A row is appended to the first list. -/
theorem Two.push1 {A : Option Addr} {c : Nat} {r : List Int} {tmp : Obj} (hne : ts ≠ t) (h : Two ts t tz B w ob v1 v2 rows1 rows2 vals1 vals2) (hA : Obj1 t B w.heap.size w A r)
    (hdis : ∀ (i : Nat) (u : Value) (g : Nat), vals1[i]? = some u → u.ownBlock = some g → ∀ a, A = some a → a.block ≠ g)
    (hown : w1.ownsRow B ts 1 v' (rows1.length + 1) (vals1 ++ [.slice A r.length c])) (hg : (w.alloc tmp).grownBy w1 v1.ownBlock) (hat : v'.ownBlock = v1.ownBlock ∨ v'.ownBlock = some (w.alloc tmp).heap.size) :
    Two ts t tz B (w1.setCell ⟨ob, 0, none⟩ v') ob v' v2 (rows1 ++ [r]) rows2 (vals1 ++ [.slice A r.length c]) vals2 := by
  have hal : Below w.heap.size w (w.alloc tmp) := (Below.refl _ _).alloc (Nat.le_refl _) _
  have hobw : ob < w.heap.size := h.box.lt
  have hob1 : some ob ≠ v1.ownBlock := fun e => by
    have := (own_type h.l1.own e.symm).2.1
    have := h.low
    omega
  have hv2 : v2.ownBlock = none ∨ v2.ownBlock ≠ v1.ownBlock := by
    cases e : v2.ownBlock with
    | none => exact .inl rfl
    | some g => exact .inr (fun e2 => h.ne g e2.symm e)
  have hk : KeepT t (w.alloc tmp) w1 := KeepT.of_grown hne (ownsRow_below h.l1.own hal) hg
  refine ⟨?_, h.low, by have h1 := hg.size; have h2 := h.bsz; simp at h1; simp [World.setCell]; omega, store_low (h.l1.push2 hne hA hdis hown hg) h.low _ _, store_low ((h.l2.later hal).beside hg hv2 hk) h.low _ _, fun g hg1 => ?_⟩
  · have hb1 : Blk w1 ob tz [v1, v2] := (hg.block ob (by simp; omega) hob1).trans (h.box.later hal)
    exact hb1.set 0 v'
  · rcases hat with e | e
    · exact h.ne g (e ▸ hg1)
    · intro e2
      have h3 := (own_type h.l2.own e2).1
      rw [e] at hg1
      simp at hg1
      omega

/-- .. to the second one. -/
theorem Two.push2 {A : Option Addr} {c : Nat} {r : List Int} {tmp : Obj} (hne : ts ≠ t) (h : Two ts t tz B w ob v1 v2 rows1 rows2 vals1 vals2) (hA : Obj1 t B w.heap.size w A r)
    (hdis : ∀ (i : Nat) (u : Value) (g : Nat), vals2[i]? = some u → u.ownBlock = some g → ∀ a, A = some a → a.block ≠ g)
    (hown : w1.ownsRow B ts 1 v' (rows2.length + 1) (vals2 ++ [.slice A r.length c])) (hg : (w.alloc tmp).grownBy w1 v2.ownBlock) (hat : v'.ownBlock = v2.ownBlock ∨ v'.ownBlock = some (w.alloc tmp).heap.size) :
    Two ts t tz B (w1.setCell ⟨ob, 1, none⟩ v') ob v1 v' rows1 (rows2 ++ [r]) vals1 (vals2 ++ [.slice A r.length c]) := by
  have hal : Below w.heap.size w (w.alloc tmp) := (Below.refl _ _).alloc (Nat.le_refl _) _
  have hobw : ob < w.heap.size := h.box.lt
  have hob1 : some ob ≠ v2.ownBlock := fun e => by
    have := (own_type h.l2.own e.symm).2.1
    have := h.low
    omega
  have hv2 : v1.ownBlock = none ∨ v1.ownBlock ≠ v2.ownBlock := by
    cases e : v1.ownBlock with
    | none => exact .inl rfl
    | some g => exact .inr (fun e2 => h.ne g e e2.symm)
  have hk : KeepT t (w.alloc tmp) w1 := KeepT.of_grown hne (ownsRow_below h.l2.own hal) hg
  refine ⟨?_, h.low, by have h1 := hg.size; have h2 := h.bsz; simp at h1; simp [World.setCell]; omega, store_low ((h.l1.later hal).beside hg hv2 hk) h.low _ _, store_low (h.l2.push2 hne hA hdis hown hg) h.low _ _, fun g hg1 e2 => ?_⟩
  · have hb1 : Blk w1 ob tz [v1, v2] := (hg.block ob (by simp; omega) hob1).trans (h.box.later hal)
    exact hb1.set 1 v'
  · rcases hat with e | e
    · exact h.ne g hg1 (e ▸ e2)
    · have h3 := (own_type h.l1.own hg1).1
      rw [e] at e2
      simp at e2
      omega

theorem Two.start (w : World) (ts t tz : TypeId) (hb : Blk w ob tz [.slice none 0 0, .slice none 0 0]) : Two ts t tz (ob + 1) w ob (.slice none 0 0) (.slice none 0 0) [] [] [] [] :=
  ⟨hb, Nat.lt_succ_self _, hb.lt, LstV.nil _ _ _ _, LstV.nil _ _ _ _, fun g h => by cases h⟩

/-- Block g of the row is kept by pushing to a list. -/
theorem push_keeps {lo hi : Nat} {A : Option Addr} {xs : List Int} {n : Nat} {ys : List Value} {tmp : Obj} (hne : ts ≠ t) (ho : w.ownsRow B ts 1 v n ys) (hg : (w.alloc tmp).grownBy w1 v.ownBlock) (h : Obj1 t lo hi w A xs) : Obj1 t lo hi w1 A xs :=
  (KeepT.of_grown (t := t) hne (ownsRow_below ho ((Below.refl _ _).alloc (Nat.le_refl _) _)) hg).obj (h.later ((Below.refl _ _).alloc (Nat.le_refl _) _))

/-- Appending to list 1 and storing the result leaves the blocks below the lists, but for the box. -/
theorem Two.frame1 {tmp : Obj} (h : Two ts t tz B w ob v1 v2 rows1 rows2 vals1 vals2) (hg : (w.alloc tmp).grownBy w1 v1.ownBlock) (u : Value) {k : Nat} (hk : k < B) (hne : k ≠ ob) (hkw : k < w.heap.size) : (w1.setCell ⟨ob, 0, none⟩ u).heap[k]? = w.heap[k]? :=
  (Below.heap_setCell w1 ⟨ob, 0, none⟩ u k hne).trans ((hg.block k (by simp; omega) (fun e => by
    have := (own_type h.l1.own e.symm).2.1
    omega)).trans (((Below.refl w.heap.size w).alloc (Nat.le_refl _) tmp).block k hkw))
theorem Two.below1 {tmp : Obj} {b0 : Nat} {w0 : World} (h : Two ts t tz B w ob v1 v2 rows1 rows2 vals1 vals2) (hg : (w.alloc tmp).grownBy w1 v1.ownBlock) (u : Value) (hb : Below b0 w0 w) (h0 : b0 ≤ ob) : Below b0 w0 (w1.setCell ⟨ob, 0, none⟩ u) :=
  ((hb.alloc (by have := h.box.lt; omega) tmp).grown hg (by have := h.box.lt; simp; omega) (fun g e => by
    have := (own_type h.l1.own e).2.1
    have := h.low
    omega)).setCell (p := ⟨ob, 0, none⟩) h0 u
theorem Two.add1 {w0 : World} {A : Option Addr} {c k x gg cap : Nat} {r : List Int} {tmp : Obj} {lo : Nat} (hne : ts ≠ t) (h0 : Two ts t tz B w0 ob v1 v2 rows1 rows2 vals1 vals2 ∨ ∃ u u' R R' VS VS', Two ts t tz B w0 ob u u' R R' VS VS' ∧ v1 = u ∧ rows1 = R ∧ vals1 = VS) (h : Two ts t tz B w ob v1 v2 rows1 rows2 vals1 vals2) (hlo : w0.heap.size ≤ lo) (hA : Obj1 t lo w.heap.size w A r) (hl : rows1.length = x) (hr : r.length = k)
    (hown : w1.ownsRow B ts 1 (.slice (some ⟨gg, 0, none⟩) (x + 1) cap) (x + 1) (vals1 ++ [.slice A k c])) (hg : (w.alloc tmp).grownBy w1 v1.ownBlock) (hat : v1.ownBlock = some gg ∨ gg = w.heap.size + 1) :
    Two ts t tz B (w1.setCell ⟨ob, 0, none⟩ (.slice (some ⟨gg, 0, none⟩) (x + 1) cap)) ob (.slice (some ⟨gg, 0, none⟩) (x + 1) cap) v2 (rows1 ++ [r]) rows2 (vals1 ++ [.slice A k c]) vals2 := by
  have hlow : ∀ (i : Nat) (u : Value) (g : Nat), vals1[i]? = some u → u.ownBlock = some g → g < w0.heap.size := by
    rcases h0 with h0 | ⟨u, u', R, R', VS, VS', h0, rfl, rfl, rfl⟩
    · exact h0.l1.low
    · exact h0.l1.low
  have hB : B ≤ w0.heap.size := by
    rcases h0 with h0 | ⟨u, u', R, R', VS, VS', h0, _⟩
    · have := h0.box.lt; have := h0.low; have := h0.l1.own; exact h0.bsz
    · exact h0.bsz
  subst hr
  subst hl
  refine h.push1 hne (hA.mono (by omega) (Nat.le_refl _)) (fun i u g hu hug a ha => ?_) hown hg ?_
  · have h1 := hlow i u g hu hug
    have h2 := (hA.bounds a ha).1
    omega
  · rcases hat with e | e
    · exact .inl (by rw [e]; rfl)
    · exact .inr (by rw [e]; simp [Value.ownBlock])

/-- Appending to list 2 and storing the result leaves the blocks below the lists, but for the box. -/
theorem Two.frame2 {tmp : Obj} (h : Two ts t tz B w ob v1 v2 rows1 rows2 vals1 vals2) (hg : (w.alloc tmp).grownBy w1 v2.ownBlock) (u : Value) {k : Nat} (hk : k < B) (hne : k ≠ ob) (hkw : k < w.heap.size) : (w1.setCell ⟨ob, 1, none⟩ u).heap[k]? = w.heap[k]? :=
  (Below.heap_setCell w1 ⟨ob, 1, none⟩ u k hne).trans ((hg.block k (by simp; omega) (fun e => by
    have := (own_type h.l2.own e.symm).2.1
    omega)).trans (((Below.refl w.heap.size w).alloc (Nat.le_refl _) tmp).block k hkw))
theorem Two.below2 {tmp : Obj} {b0 : Nat} {w0 : World} (h : Two ts t tz B w ob v1 v2 rows1 rows2 vals1 vals2) (hg : (w.alloc tmp).grownBy w1 v2.ownBlock) (u : Value) (hb : Below b0 w0 w) (h0 : b0 ≤ ob) : Below b0 w0 (w1.setCell ⟨ob, 1, none⟩ u) :=
  ((hb.alloc (by have := h.box.lt; omega) tmp).grown hg (by have := h.box.lt; simp; omega) (fun g e => by
    have := (own_type h.l2.own e).2.1
    have := h.low
    omega)).setCell (p := ⟨ob, 1, none⟩) h0 u
theorem Two.add2 {w0 : World} {A : Option Addr} {c k x gg cap : Nat} {r : List Int} {tmp : Obj} {lo : Nat} (hne : ts ≠ t) (h0 : Two ts t tz B w0 ob v1 v2 rows1 rows2 vals1 vals2 ∨ ∃ u u' R R' VS VS', Two ts t tz B w0 ob u u' R R' VS VS' ∧ v2 = u' ∧ rows2 = R' ∧ vals2 = VS') (h : Two ts t tz B w ob v1 v2 rows1 rows2 vals1 vals2) (hlo : w0.heap.size ≤ lo) (hA : Obj1 t lo w.heap.size w A r) (hl : rows2.length = x) (hr : r.length = k)
    (hown : w1.ownsRow B ts 1 (.slice (some ⟨gg, 0, none⟩) (x + 1) cap) (x + 1) (vals2 ++ [.slice A k c])) (hg : (w.alloc tmp).grownBy w1 v2.ownBlock) (hat : v2.ownBlock = some gg ∨ gg = w.heap.size + 1) :
    Two ts t tz B (w1.setCell ⟨ob, 1, none⟩ (.slice (some ⟨gg, 0, none⟩) (x + 1) cap)) ob v1 (.slice (some ⟨gg, 0, none⟩) (x + 1) cap) rows1 (rows2 ++ [r]) vals1 (vals2 ++ [.slice A k c]) := by
  have hlow : ∀ (i : Nat) (u : Value) (g : Nat), vals2[i]? = some u → u.ownBlock = some g → g < w0.heap.size := by
    rcases h0 with h0 | ⟨u, u', R, R', VS, VS', h0, rfl, rfl, rfl⟩
    · exact h0.l2.low
    · exact h0.l2.low
  have hB : B ≤ w0.heap.size := by
    rcases h0 with h0 | ⟨u, u', R, R', VS, VS', h0, _⟩
    · have := h0.box.lt; have := h0.low; have := h0.l1.own; exact h0.bsz
    · exact h0.bsz
  subst hr
  subst hl
  refine h.push2 hne (hA.mono (by omega) (Nat.le_refl _)) (fun i u g hu hug a ha => ?_) hown hg ?_
  · have h1 := hlow i u g hu hug
    have h2 := (hA.bounds a ha).1
    omega
  · rcases hat with e | e
    · exact .inl (by rw [e]; rfl)
    · exact .inr (by rw [e]; simp [Value.ownBlock])

theorem row_kept {k : Nat} {lo hi : Nat} {A : Option Addr} {xs : List Int} {n : Nat} {ys : List Value} {tmp : Obj} (hne : ts ≠ t) (ho : w.ownsRow B ts 1 v n ys) (hg : (w.alloc tmp).grownBy w1 v.ownBlock) (h : Obj1 t lo hi w A xs) (hk : ob < lo) (u : Value) : Obj1 t lo hi (w1.setCell ⟨ob, k, none⟩ u) A xs :=
  (push_keeps hne ho hg h).set (p := ⟨ob, k, none⟩) (.inl hk) u
end
end Go.Proofs.Ytjgjnekpdeffaaa
namespace Go.Proofs.Ytjgjnekpdeffaaa
open Go Go.RowKit
open Go.ChangeMaps (setBlock heap_setBlock_same heap_setBlock_other)
open Classical
set_option maxRecDepth 100000

/-- The map from each pair to the list of those that are led to it, among the first k: G tells the slices. -/
structure Led (w : World) (b B n k : Nat) (f s : List (List Int)) (G : Nat × Nat → Value) : Prop where
  map : ∃ V, MapV w b k V ∧ ∀ p : Nat × Nat, (V (pkey p.1 p.2)).getD (.slice none 0 0) = G p
  low : b < B
  rows : ∀ p : Nat × Nat, w.ownsRow B 72 2 (G p) (ledL f s n k p).length (pcs n (ledL f s n k p))
  ne : ∀ (p p' : Nat × Nat) (g : Nat), p ≠ p' → (G p).ownBlock = some g → (G p').ownBlock ≠ some g

theorem Led.start {w : World} {b : Nat} {V : Value → Option Value} (h : MapV w b 0 V) (hV : ∀ v, V v = none) (B n : Nat) (f s : List (List Int)) (hb : b < B) : Led w b B n 0 f s (fun _ => .slice none 0 0) :=
  ⟨⟨V, h, fun p => by rw [hV]; rfl⟩, hb, fun p => ⟨by simp [ledL, pcs], .inl ⟨rfl, by simp [ledL]⟩⟩, fun _ _ _ _ h => by cases h⟩
theorem Led.lt {w : World} {b B n k : Nat} {f s : List (List Int)} {G : Nat × Nat → Value} (h : Led w b B n k f s G) : b < w.heap.size := by
  obtain ⟨V, hm, _⟩ := h.map
  exact hm.lt
theorem ownsRow2_later {w w' : World} {B n : Nat} {t : TypeId} {v : Value} {xs : List Value} (h : w.ownsRow B t 2 v n xs) (hb : Below w.heap.size w w') : w'.ownsRow B t 2 v n xs := by
  obtain ⟨hl, h | ⟨g, cap, cur, hv, h1, hg, hn, hcap, hsz, hxs⟩⟩ := h
  · exact ⟨hl, .inl h⟩
  · exact ⟨hl, .inr ⟨g, cap, cur, hv, h1, (hb.block g (Array.getElem?_eq_some_iff.1 hg).1).trans hg, hn, hcap, hsz, hxs⟩⟩
theorem Led.later {w w' : World} {b B n k : Nat} {f s : List (List Int)} {G : Nat × Nat → Value} (h : Led w b B n k f s G) (hb : Below w.heap.size w w') : Led w' b B n k f s G := by
  obtain ⟨⟨V, hm, hV⟩, h1, h2, h3⟩ := h
  exact ⟨⟨V, hm.later hb, hV⟩, h1, fun p => ownsRow2_later (h2 p) hb, h3⟩

theorem led_low {w : World} {b B n k : Nat} {f s : List (List Int)} {G : Nat × Nat → Value} (h : Led w b B n k f s G) (p : Nat × Nat) : some b ≠ (G p).ownBlock := fun e => by
  have h1 := (h.rows p).lt b e.symm
  have h2 := h.low
  omega

/-- A pair is appended to the list at the pair to which it is led: the entry is looked up, the slice appended to, and laid back. -/
theorem Led.step {w : World} {b B n k : Nat} {f s : List (List Int)} {G : Nat × Nat → Value} {t : TypeId} (h : Led w b B n k f s G) (ht : Try.prog.underlying t = some (.map 72 69)) (hz : ∀ u : World, (zeroValue 69).run Try.prog u = .ok (.slice none 0 0) u) (hk : k < maxLen) (q : Nat × Nat) (hq : ledK f s n k = q) (hq1 : q.1 < 4611686018427387904) (hq2 : q.2 < 4611686018427387904) :
    ∃ st W, (Instr.mapEntry t (.map (some b)) (.agg #[.int .i64 q.1, .int .i64 q.2])).run Try.prog w = .ok (.tuple #[G q, .int .i64 st]) W ∧ (∀ i, i ≠ b → W.heap[i]? = w.heap[i]?) ∧ W.heap.size = w.heap.size ∧ w.grownBy W (some b) ∧
      (W.ownsRow B 72 2 (G q) (ledL f s n k q).length (pcs n (ledL f s n k q))) ∧
      ∀ (w1 : World) (v' : Value), W.grownBy w1 (G q).ownBlock → w1.ownsRow B 72 2 v' ((ledL f s n k q).length + 1) (pcs n (ledL f s n k q) ++ [.int .i64 ((k / n : Nat) : Int), .int .i64 ((k % n : Nat) : Int)]) → (v'.ownBlock = (G q).ownBlock ∨ v'.ownBlock = some W.heap.size) →
        ∃ w3, (Instr.entryStore t (.map (some b)) (.int .i64 st) v').run Try.prog w1 = .ok () w3 ∧ w1.grownBy w3 (some b) ∧ Led w3 b B n (k + 1) f s (fun p => if p = q then v' else G p) := by
  obtain ⟨V, hm, hV⟩ := h.map
  have hlow := h.low
  have hrows := h.rows
  have hne := h.ne
  have hltb := hm.lt
  obtain ⟨kl, hkey⟩ := mp_key w q.1 q.2 hq1 hq2
  obtain ⟨st, es1, clock1, hE, hS⟩ := hm.entry ht hz hk hkey
  have hbk : ∃ es clock, w.heap[b]? = some (.map es clock) := by
    obtain ⟨D, ⟨es, clock, hb, _⟩, _⟩ := hm
    exact ⟨es, clock, hb⟩
  obtain ⟨es0, clock0, hb0⟩ := hbk
  have hother : ∀ i, i ≠ b → (setBlock w b (.map es1 clock1)).heap[i]? = w.heap[i]? := fun i hi => heap_setBlock_other hb0 _ hi
  have hsize : (setBlock w b (.map es1 clock1)).heap.size = w.heap.size := by simp [setBlock]
  have hgr : w.grownBy (setBlock w b (.map es1 clock1)) (some b) := ⟨rfl, rfl, rfl, by simp [setBlock], fun i _ hi => heap_setBlock_other hb0 _ (fun e => hi (by rw [e]))⟩
  have hkeep : ∀ p : Nat × Nat, (setBlock w b (.map es1 clock1)).ownsRow B 72 2 (G p) (ledL f s n k p).length (pcs n (ledL f s n k p)) := fun p => (hrows p).kept hgr (by
    cases e : (G p).ownBlock with
    | none => exact .inl rfl
    | some g => exact .inr (fun e2 => led_low h p (by rw [e, e2])))
  refine ⟨st, setBlock w b (.map es1 clock1), ?_, hother, hsize, hgr, hkeep q, fun w1 v' hg1 hown hat => ?_⟩
  · rw [← hV q]; exact hE
  have hb1 : w1.heap[b]? = some (.map es1 clock1) := (hg1.block b (by rw [hsize]; exact hltb) (led_low h q)).trans (heap_setBlock_same hb0 _)
  obtain ⟨es', clock', hrun, hMap⟩ := hS w1 v' hb1
  have hgr3 : w1.grownBy (setBlock w1 b (.map es' clock')) (some b) := ⟨rfl, rfl, rfl, by simp [setBlock], fun i _ hi => heap_setBlock_other hb1 _ (fun e => hi (by rw [e]))⟩
  refine ⟨setBlock w1 b (.map es' clock'), hrun, hgr3, ⟨_, hMap, fun p => ?_⟩, hlow, fun p => ?_, fun p p' g hpp hg hg' => ?_⟩
  · by_cases e : p = q
    · subst e
      simp
    · have e2 : pkey p.1 p.2 ≠ pkey q.1 q.2 := fun e3 => e (by
        obtain ⟨e4, e5⟩ := pkey_inj e3
        exact Prod.ext e4 e5)
      simp only [if_neg e, if_neg e2]
      exact hV p
  · rw [ledL_succ]
    by_cases e : p = q
    · subst e
      simp only [if_pos, hq]
      rw [List.length_append, List.length_singleton, pcs_snoc]
      refine hown.kept hgr3 ?_
      cases e : v'.ownBlock with
      | none => exact .inl rfl
      | some g =>
        refine .inr (fun e2 => ?_)
        injection e2 with e2
        have := hown.lt g e
        omega
    · have e2 : ¬ ledK f s n k = p := fun e3 => e (e3.symm.trans hq)
      simp only [if_neg e, if_neg e2]
      have h1 : w1.ownsRow B 72 2 (G p) (ledL f s n k p).length (pcs n (ledL f s n k p)) := (hkeep p).kept hg1 (by
        cases e3 : (G p).ownBlock with
        | none => exact .inl rfl
        | some g => exact .inr (fun e4 => hne p q g e e3 e4.symm))
      refine h1.kept hgr3 ?_
      cases e3 : (G p).ownBlock with
      | none => exact .inl rfl
      | some g => exact .inr (fun e4 => led_low h p (by rw [e3, e4]))
  · have hnew : ∀ p'', p'' ≠ q → ∀ g, v'.ownBlock = some g → (G p'').ownBlock ≠ some g := fun p'' hp g hg hg' => by
      rcases hat with e | e
      · exact hne p'' q g hp hg' (e ▸ hg)
      · rw [hg] at e
        injection e with e
        have := (hrows p'').lt g hg'
        omega
    by_cases e : p = q
    · have e2 : p' ≠ q := fun e2 => hpp (e.trans e2.symm)
      simp only [if_pos e] at hg
      simp only [if_neg e2] at hg'
      exact hnew p' e2 g hg hg'
    · simp only [if_neg e] at hg
      by_cases e2 : p' = q
      · simp only [if_pos e2] at hg'
        exact hnew p e g hg' hg
      · simp only [if_neg e2] at hg'
        exact hne p p' g hpp hg hg'
end Go.Proofs.Ytjgjnekpdeffaaa
namespace Go.Proofs.Ytjgjnekpdeffaaa
open Go Go.RowKit
/-- The condition of racks at the list of number T. -/
def Rk3 (f : List (List Int)) (n T : Nat) : Prop := ap f (trip n T).1 (ap f (trip n T).2.1 (trip n T).2.2) = ap f (ap f (trip n T).1 (trip n T).2.1) (ap f (trip n T).1 (trip n T).2.2)
def FirstK (f : List (List Int)) (n T : Nat) : Prop := (∀ i, i < T → Rk3 f n i) ∧ T ≤ n * n * n ∧ (T < n * n * n → ¬ Rk3 f n T)
theorem FirstK.ex (f : List (List Int)) (n : Nat) : ∃ T, FirstK f n T := by
  have h : ∀ k, k ≤ n * n * n → (∀ i, i < k → Rk3 f n i) ∨ ∃ T, FirstK f n T := by
    intro k
    induction k with
    | zero => intro _; exact .inl (fun i hi => absurd hi (Nat.not_lt_zero _))
    | succ k ih =>
      intro hk
      rcases ih (by omega) with h | h
      · by_cases e : Rk3 f n k
        · refine .inl (fun i hi => ?_)
          by_cases e2 : i = k
          · subst e2; exact e
          · exact h i (by omega)
        · exact .inr ⟨k, h, by omega, fun _ => e⟩
      · exact .inr h
  rcases h _ (Nat.le_refl _) with h | h
  · exact ⟨_, h, Nat.le_refl _, fun h2 => absurd h2 (by omega)⟩
  · exact h
theorem FirstK.bad {f : List (List Int)} {n T k : Nat} (h : FirstK f n T) (h1 : ∀ i, i < k → Rk3 f n i) (hk : k < n * n * n) (h2 : ¬ Rk3 f n k) : T = k := by
  have a : ¬ k < T := fun h3 => h2 (h.1 k h3)
  have b : ¬ T < k := fun h3 => h.2.2 (by omega) (h1 T h3)
  omega
theorem FirstK.all {f : List (List Int)} {n T : Nat} (h : FirstK f n T) (h1 : ∀ i, i < n * n * n → Rk3 f n i) : T = n * n * n := by
  have a := h.2.1
  have b : ¬ T < n * n * n := fun h3 => h.2.2 h3 (h1 T h3)
  omega
theorem FirstK.iff {f : List (List Int)} {n T : Nat} (h : FirstK f n T) : T = n * n * n ↔ ∀ i, i < n * n * n → Rk3 f n i :=
  ⟨fun e i hi => h.1 i (by omega), h.all⟩
theorem Rk3.at {f : List (List Int)} {n x y z : Nat} (hy : y < n) (hz : z < n) : Rk3 f n ((x * n + y) * n + z) ↔ ap f x (ap f y z) = ap f (ap f x y) (ap f x z) := by
  unfold Rk3
  rw [trip_of hy hz]
/-- What a rack is. -/
def Rck (f : List (List Int)) : Prop := (Tbl f ∧ AllPrm f) ∧ ∀ i, i < f.length * f.length * f.length → Rk3 f f.length i
def RkRes (f : List (List Int)) (r : Bool) : Prop := r = true ↔ Rck f
theorem RkRes.ex (f : List (List Int)) : ∃ r, RkRes f r := bool_of _
def RkFRes (f : List (List Int)) (zs : List Int) (code : Int) : Prop :=
  (∃ T, (Tbl f ∧ AllPrm f) ∧ FirstK f f.length T ∧ ((T < f.length * f.length * f.length ∧ zs = lst3 (trip f.length T) ∧ code = 0) ∨ (T = f.length * f.length * f.length ∧ zs = [] ∧ code = 4))) ∨ (Tbl f ∧ ¬ AllPrm f ∧ zs = [] ∧ code = 5) ∨ (¬ Tbl f ∧ zs = [] ∧ code = 1)
theorem RkFRes.ex (f : List (List Int)) : ∃ zs code, RkFRes f zs code ∧ zs.length ≤ 1048576 := by
  by_cases h : Tbl f
  · by_cases h1 : AllPrm f
    · obtain ⟨T, hT⟩ := FirstK.ex f f.length
      by_cases h2 : T < f.length * f.length * f.length
      · exact ⟨_, _, .inl ⟨T, ⟨h, h1⟩, hT, .inl ⟨h2, rfl, rfl⟩⟩, by simp [lst3]⟩
      · exact ⟨_, _, .inl ⟨T, ⟨h, h1⟩, hT, .inr ⟨by have := hT.2.1; omega, rfl, rfl⟩⟩, by simp⟩
    · exact ⟨_, _, .inr (.inl ⟨h, h1, rfl, rfl⟩), by simp⟩
  · exact ⟨_, _, .inr (.inr ⟨h, rfl, rfl⟩), by simp⟩
theorem Rck.tbl {f : List (List Int)} (h : Rck f) : Tbl f := h.1.1
theorem Rck.prm {f : List (List Int)} (h : Rck f) : AllPrm f := h.1.2
end Go.Proofs.Ytjgjnekpdeffaaa
namespace Go.Proofs.Ytjgjnekpdeffaaa
open Go Go.RowKit
def kinkL (f : List (List Int)) : List Int := (List.range f.length).map fun (x : Nat) => ((ap f x x : Nat) : Int)
theorem kinkL_length (f : List (List Int)) : (kinkL f).length = f.length := by simp [kinkL]
theorem kinkL_getD (f : List (List Int)) (k : Nat) (h : k < f.length) : (kinkL f).getD k 0 = ((ap f k k : Nat) : Int) := by simp [kinkL, h]
def KinkRes (f : List (List Int)) (zs : List Int) (code : Int) : Prop := (Rck f ∧ zs = kinkL f ∧ code = 0) ∨ (¬ Rck f ∧ zs = [] ∧ code = 1)
theorem KinkRes.ex (f : List (List Int)) : ∃ zs code, KinkRes f zs code ∧ zs.length ≤ 1048576 := by
  by_cases h : Rck f
  · exact ⟨_, _, .inl ⟨h, rfl, rfl⟩, by rw [kinkL_length]; have := h.tbl.2.1; omega⟩
  · exact ⟨_, _, .inr ⟨h, rfl, rfl⟩, by simp⟩
theorem kq_take (zs : List Int) (k : Nat) (y : Int) (h : k < zs.length) (hy : zs.getD k 0 = y) : ints (zs.take k) ++ [.int .i64 y] = ints (zs.take (k + 1)) := by
  rw [List.take_succ_eq_append_getElem h]
  have : zs[k] = y := by simpa [h] using hy
  simp [ints, this]
theorem kq_empty (w : World) (t : TypeId) : (w.alloc (.cells #[] t)).ownsRow w.heap.size t 1 (.slice (some ⟨w.heap.size, 0, none⟩) 0 0) 0 [] :=
  ⟨by simp, .inr ⟨w.heap.size, 0, #[], rfl, Nat.le_refl _, heap_alloc_new _ _, Nat.le_refl _, by unfold maxLen; omega, by simp, by simp⟩⟩
theorem kq_new {w : World} {v : Value} {t : TypeId} : ∀ j u, [v][j]? = some u → (w.alloc (.cells #[v] t)).cell? ((⟨w.heap.size, 0, none⟩ : Addr).add j) = some u := by
  intro j u hj
  match j, hj with
  | 0, hj => simp at hj; subst hj; simp [Addr.add, World.cell?_alloc_new]
theorem kqInfo : (Try.prog.info? 2).map (fun i => (i.zero, i.size, i.bytes)) = some (some (.int .i64 0), 1, 8) := by kernel_rfl
/-- The last lines of a row that was filled from the front. -/
theorem kq_fill (zs : List Int) (n k : Nat) (hz : zs.length = n) (hk : k < n) : ((zs.take k ++ List.replicate (n - k) 0).set k (zs.getD k 0)) = zs.take (k + 1) ++ List.replicate (n - (k + 1)) 0 := by
  apply List.ext_getElem
  · simp; omega
  · intro i h1 h2
    simp only [List.getElem_set, List.getElem_append, List.length_take, List.getElem_take, List.getElem_replicate]
    by_cases e : k = i
    · subst e
      rw [if_pos rfl, dif_pos (by omega)]
      simp [show k < zs.length by omega]
    · rw [if_neg e]
      by_cases e2 : i < k
      · rw [dif_pos (by omega), dif_pos (by omega)]
      · rw [dif_neg (by omega), dif_neg (by omega)]
end Go.Proofs.Ytjgjnekpdeffaaa
namespace Go.Proofs.Ytjgjnekpdeffaaa
open Go Go.RowKit
set_option maxHeartbeats 4000000
theorem colInfo2 : (Try.prog.info? 72).map (fun i => (i.zero, i.size, i.bytes)) = some (some (.agg #[.int .i64 0, .int .i64 0]), 2, 16) := by kernel_rfl
theorem colZero (u : World) : (zeroValue 69).run Try.prog u = .ok (.slice none 0 0) u := by kernel_rfl
theorem ck_new {w : World} {v v2 : Value} {t : TypeId} : ∀ j u, [v, v2][j]? = some u → (w.alloc (.cells #[v, v2] t)).cell? ((⟨w.heap.size, 0, none⟩ : Addr).add j) = some u := by
  intro j u hj
  match j, hj with
  | 0, hj => simp at hj; subst hj; simp [Addr.add, World.cell?_alloc_new]
  | 1, hj => simp at hj; subst hj; simp [Addr.add, World.cell?_alloc_new]

set_option maxRecDepth 100000 in
theorem coll_any (A : Option Addr) (n c : Nat) (f : List (List Int)) (B : Option Addr) (m d : Nat) (s : List (List Int)) (w : World) (hz : ZArg 1048576 w A n f B m s) (hp : PMap f s) :
    Calls Try.prog 77 #[.agg #[.slice A n c, .slice B m d]] w fun e w' => Below w.heap.size w w' ∧ ((NoCol f s n ∧ e = .returned (.tuple #[.agg #[.int .i64 (0 : Nat), .int .i64 (0 : Nat)], .agg #[.int .i64 (0 : Nat), .int .i64 (0 : Nat)], .bool false])) ∨
      ∃ a b, FstCol f s n a b ∧ e = .returned (.tuple #[.agg #[.int .i64 (a / n : Nat), .int .i64 (a % n : Nat)], .agg #[.int .i64 (b / n : Nat), .int .i64 (b % n : Nat)], .bool true])) := by
  have hnb := hz.sz.nb
  have HZ := hide hz
  have HP := hide hp
  have HFL := hide hz.sz.fl
  have h12 := hz.small hp
  obtain ⟨N, hN⟩ : ∃ N, n * n = N := ⟨_, rfl⟩
  have hN144 : N ≤ 144 := by rw [← hN]; exact sq_le n h12.2
  have HN := hide hN
  obtain ⟨i0, hi, hz0, hz1, hz2⟩ := info_parts colInfo2
  have hmm := @run_makeMap Try.prog
  clear hp hz hN
  go_enter Try.func77, Try.ntmps77
  go_wp2_with fail
  clear hmm
  refine calls_gen fun w0 hw0 => ?_
  have HB0 : Hid (Below w.heap.size w w0) := hide (by rw [hw0]; exact ((((Below.refl _ _).alloc (Nat.le_refl _) _).alloc (by simp) _).alloc (by simp; omega) _).alloc (by simp; omega) _)
  have HK0 : Hid (Blk w0 w.heap.size 48 [.slice A n c, .slice B m d]) := hide (by rw [hw0]; exact (((Blk.new _ _ _).alloc _).alloc _).alloc _)
  have HO0 : Hid (Blk w0 (w.heap.size + 1) 72 [.int .i64 0, .int .i64 0]) := hide (by rw [hw0]; have h := ((Blk.new (w.alloc (Obj.cells #[Value.slice A n c, Value.slice B m d] 48)) 72 [.int .i64 0, .int .i64 0]).alloc (Obj.cells #[.int .i64 0, .int .i64 0] 72)).alloc (.map #[] 0); simpa using h)
  have HU0 : Hid (Blk w0 (w.heap.size + 1 + 1) 72 [.int .i64 0, .int .i64 0]) := hide (by rw [hw0]; have h := (Blk.new ((w.alloc (Obj.cells #[Value.slice A n c, Value.slice B m d] 48)).alloc (Obj.cells #[.int .i64 0, .int .i64 0] 72)) 72 [.int .i64 0, .int .i64 0]).alloc (.map #[] 0); simpa using h)
  have HM0 : Hid (MapV w0 (w.heap.size + 1 + 1 + 1) 0 (fun _ => none)) := hide (by rw [hw0]; have h := MapV.made (((w.alloc (Obj.cells #[Value.slice A n c, Value.slice B m d] 48)).alloc (Obj.cells #[.int .i64 0, .int .i64 0] 72)).alloc (Obj.cells #[.int .i64 0, .int .i64 0] 72)); simpa using h)
  clear hw0
  refine (size_any _ _ _ _ _ _ _ hnb).mono ?_
  rintro e w2 ⟨rfl, hb2⟩
  have HB2 := hide (HB0.out.trans (hb2.mono HB0.out.size))
  have HK2 := hide (HK0.out.later hb2)
  have HO2 := hide (HO0.out.later hb2)
  have HU2 := hide (HU0.out.later hb2)
  have HM2 := hide (HM0.out.later hb2)
  clear hb2
  go_wp2_with fail
  refine (pairsOf_any n N _ h12.1 h12.2 HN.out).mono ?_
  rintro e w3 ⟨g, rfl, hb3, hg3, hpa⟩
  have HB3 := hide (HB2.out.trans (hb3.mono HB2.out.size))
  have HK3 := hide (HK2.out.later hb3)
  have HO3 := hide (HO2.out.later hb3)
  have HU3 := hide (HU2.out.later hb3)
  have HPA3 := hide hpa
  obtain ⟨L0, hL0⟩ : ∃ L0, w3.heap.size = L0 := ⟨_, rfl⟩
  have HL3 : Hid (Led w3 (w.heap.size + 1 + 1 + 1) L0 n 0 f s (fun _ => .slice none 0 0)) := hide (Led.start (HM2.out.later hb3) (fun _ => rfl) _ _ _ _ (by rw [← hL0]; exact (HM2.out.later hb3).lt))
  have hgL : g < L0 := by rw [← hL0]; exact hpa.1
  have hgb : g ≠ w.heap.size + 1 + 1 + 1 := by have := HM2.out.lt; omega
  have hmL : w.heap.size + 1 + 1 + 1 < L0 := by rw [← hL0]; exact (HM2.out.later hb3).lt
  have hLs : L0 ≤ w3.heap.size := by omega
  clear hb3 hpa hL0
  go_wp2_with fail
  go_outline
  go_loopw [17] (fun i wr => ∃ (k : Nat) (G : Nat × Nat → Value), k ≤ N ∧ i = .int .i64 k ∧ Below w.heap.size w wr ∧ Blk wr w.heap.size 48 [.slice A n c, .slice B m d] ∧ Blk wr (w.heap.size + 1) 72 [.int .i64 0, .int .i64 0] ∧ Blk wr (w.heap.size + 1 + 1) 72 [.int .i64 0, .int .i64 0] ∧ PairsAt wr g n ∧ L0 ≤ wr.heap.size ∧ Led wr (w.heap.size + 1 + 1 + 1) L0 n k f s G) (fun i _ => N - (intOf i).toNat)
  case atStart => exact ⟨0, _, Nat.zero_le _, rfl, HB3.out, HK3.out, HO3.out, HU3.out, HPA3.out, hLs, HL3.out⟩
  case round =>
    obtain ⟨k, G, hk, rfl, hbe, hkk, hoo, huu, hpa, hls, hled⟩ := hrel
    have HB := hide hbe
    have HK := hide hkk
    have HO := hide hoo
    have HU := hide huu
    have HPA := hide hpa
    have HLD := hide hled
    clear hbe hkk hoo huu hpa hled
    by_cases hlt : k < N
    · have hkz : (k : Int) < N := by omega
      obtain ⟨p0, p1⟩ := HPA.out.2 k (by rw [HN.out]; exact hlt)
      have hxn : k / n < n := div_lt_sq (by rw [HN.out]; exact hlt)
      have hyn : k % n < n := mod_lt_sq (by rw [HN.out]; exact hlt)
      obtain ⟨x, hx⟩ : ∃ x, k / n = x := ⟨_, rfl⟩
      obtain ⟨y, hy⟩ : ∃ y, k % n = y := ⟨_, rfl⟩
      rw [hx] at p0 hxn
      rw [hy] at p1 hyn
      have HX := hide hx
      have HY := hide hy
      clear hx hy
      have hu := HP.out.lt1 HFL.out hxn hyn
      have hv := HP.out.lt2 HFL.out hxn hyn
      have hq : ledK f s n k = (ap f x y, ap s x y) := by unfold ledK; rw [HX.out, HY.out]
      obtain ⟨u, hue⟩ : ∃ u, ap f x y = u := ⟨_, rfl⟩
      obtain ⟨v, hve⟩ : ∃ v, ap s x y = v := ⟨_, rfl⟩
      rw [hue, hve] at hq
      rw [hue] at hu
      rw [hve] at hv
      have HQ := hide hq
      have HUE := hide hue
      have HVE := hide hve
      clear hq hue hve
      have k0 := fun o => (HK.out.alloc o).cell 0 _ rfl
      have k1 := fun o => (HK.out.alloc o).cell 1 _ rfl
      go_wp2_with fail
      clear k0 k1 p0 p1
      refine calls_gen fun w4 hw4 => ?_
      obtain ⟨P, hPe⟩ : ∃ P, wr.heap.size = P := ⟨_, rfl⟩
      have hbx : Below wr.heap.size wr w4 := by rw [hw4]; exact (Below.refl _ _).alloc (Nat.le_refl _) _
      have HP4 : Hid (Blk w4 P 72 [.int .i64 x, .int .i64 y]) := hide (by rw [hw4, ← hPe]; exact Blk.new _ _ _)
      have HB4 := hide (HB.out.trans (hbx.mono HB.out.size))
      have HK4 := hide (HK.out.later hbx)
      have HO4 := hide (HO.out.later hbx)
      have HU4 := hide (HU.out.later hbx)
      have HA4 := hide (HPA.out.later hbx)
      have HL4 := hide (HLD.out.later hbx)
      have hs4 := hbx.size
      rw [hPe]
      clear hw4 hbx
      refine (lead_any _ _ _ f _ _ _ s x y _ (HZ.out.later HB4.out) HP.out hxn hyn).mono ?_
      rintro e w5 ⟨rfl, hb5⟩
      rw [HUE.out, HVE.out]
      have HP5 := hide (HP4.out.later hb5)
      have HB5 := hide (HB4.out.trans (hb5.mono HB4.out.size))
      have HK5 := hide (HK4.out.later hb5)
      have HO5 := hide (HO4.out.later hb5)
      have HU5 := hide (HU4.out.later hb5)
      have HA5 := hide (HA4.out.later hb5)
      have HL5 := hide (HL4.out.later hb5)
      have hs5 := hb5.size
      clear hb5 hPe
      have p0 := fun o => (HP5.out.alloc o).cell 0 _ rfl
      have p1 := fun o => (HP5.out.alloc o).cell 1 _ rfl
      -- the world behind the box of q and the cells of the pair that is appended
      obtain ⟨w6, hw6⟩ : ∃ w6, w6 = (w5.alloc (Obj.cells #[Value.int IntKind.i64 u, Value.int IntKind.i64 v] 72)) := ⟨_, rfl⟩
      have hb6 : Below w5.heap.size w5 w6 := by rw [hw6]; exact (Below.refl _ _).alloc (Nat.le_refl _) _
      have hs6 : w6.heap.size = w5.heap.size + 1 := by rw [hw6]; simp
      obtain ⟨w7, hw7⟩ : ∃ w7, w7 = (w6.alloc (Obj.cells #[Value.int IntKind.i64 x, Value.int IntKind.i64 y] 72)) := ⟨_, rfl⟩
      have hb7 : Below w6.heap.size w6 w7 := by rw [hw7]; exact (Below.refl _ _).alloc (Nat.le_refl _) _
      have hs7 : w7.heap.size = w6.heap.size + 1 := by rw [hw7]; simp
      have hb57 : Below w5.heap.size w5 w7 := hb6.trans (hb7.mono hb6.size)
      have HB7 := hide (HB5.out.trans (hb57.mono HB5.out.size))
      have HK7 := hide (HK5.out.later hb57)
      have HO7 := hide (HO5.out.later hb57)
      have HU7 := hide (HU5.out.later hb57)
      have HA7 := hide (HA5.out.later hb57)
      have HL7 := hide (HL5.out.later hb57)
      obtain ⟨st, W, hE, hWo, hWs, hWg, hWr, hstep⟩ := HL7.out.step (t := 99) Try.underlying99 colZero (by unfold maxLen; omega) (u, v) HQ.out (by show u < _; omega) (by show v < _; omega)
      have hnew : ∀ j z, [Value.int IntKind.i64 (x : Int), Value.int IntKind.i64 (y : Int)][j]? = some z → W.cell? ((⟨w6.heap.size, 0, none⟩ : Addr).add j) = some z := fun j z hj => by
        have e : W.heap[w6.heap.size]? = w7.heap[w6.heap.size]? := hWo w6.heap.size (by have := HL5.out.lt; omega)
        have e2 : w7.cell? ((⟨w6.heap.size, 0, none⟩ : Addr).add j) = some z := by rw [hw7]; exact ck_new j z hj
        have hbl : ((⟨w6.heap.size, 0, none⟩ : Addr).add j).block = w6.heap.size := by unfold Addr.add; split <;> rfl
        rw [← e2]
        exact World.cell?_of_block (w := w7) (w' := W) (a := (⟨w6.heap.size, 0, none⟩ : Addr).add j) (by rw [hbl]; exact e)
      have HWO := hide hWo
      have HSTEP := hide hstep
      have HWR := hide hWr
      have HWG := hide hWg
      have HW67 := hide hw7
      rw [hw7, hw6] at hE
      have hE' : (Instr.mapEntry 99 (.map (some (w.heap.size + 1 + 1 + 1))) (.agg #[.int .i64 (u : Int), .int .i64 (v : Int)])).run Try.prog ((w5.alloc (Obj.cells #[Value.int IntKind.i64 u, Value.int IntKind.i64 v] 72)).alloc (Obj.cells #[Value.int IntKind.i64 x, Value.int IntKind.i64 y] 72)) = .ok (.tuple #[G (u, v), .int .i64 st]) W := hE
      rw [hs6] at hnew
      clear hE hWo hstep hWr hWg hw7
      have hLb := ledL_len f s n k (u, v)
      go_wp2_with (at_builtin; refine wpList_append_own_at _ rfl _ _ 69 rfl L0 72 i0 (.agg #[.int .i64 0, .int .i64 0]) 2 16 Try.underlying69 hi hz0 hz1 hz2 rfl (by decide) _ _ _ rfl HWR.out ⟨w5.heap.size + 1, 0, none⟩ 1 1 [.int .i64 (x : Int), .int .i64 (y : Int)] rfl rfl ?c1 ?c2 ?c3 ?c4 ?c5 ?_)
      case c1 => exact hnew
      case c2 => intro z hz9; simp at hz9; rcases hz9 with rfl | rfl <;> rfl
      case c3 => unfold maxLen; omega
      case c4 => omega
      case c5 => omega
      intro v' w8 hown8 hgrow8 _ hat8
      rw [← HX.out, ← HY.out] at hown8
      obtain ⟨w9, hS, hg9, hLed9⟩ := HSTEP.out w8 v' hgrow8 hown8 (hat8.imp id (fun h => by rw [h]; congr 1; omega))
      have hown : ∀ j, (G (u, v)).ownBlock = some j → L0 ≤ j := fun j hj => (HWR.out.lt j hj).1
      have hs8 := hgrow8.size
      have hs9 := hg9.size
      have hfr : ∀ i, i < L0 → i ≠ w.heap.size + 1 + 1 + 1 → w9.heap[i]? = w7.heap[i]? := fun i h1 h2 => by
        have e1 := HWO.out i h2
        have e2 := hgrow8.block i (by omega) (fun e => by have := hown i e.symm; omega)
        have e3 := hg9.block i (by omega) (fun e => by injection e with e; omega)
        rw [e3, e2, e1]
      have HB9 : Hid (Below w.heap.size w w9) := hide (by
        have h7 := HB7.out
        have s7 := h7.size
        have h8 := h7.grown HWG.out s7 (fun j e => by injection e with e; omega)
        have h9 := h8.grown hgrow8 (by omega) (fun j e => by have := hown j e; omega)
        exact h9.grown hg9 (by omega) (fun j e => by injection e with e; omega))
      have HK9 : Hid (Blk w9 w.heap.size 48 [.slice A n c, .slice B m d]) := hide ((hfr _ (by omega) (by omega)).trans HK7.out)
      have HO9 : Hid (Blk w9 (w.heap.size + 1) 72 [.int .i64 0, .int .i64 0]) := hide ((hfr _ (by omega) (by omega)).trans HO7.out)
      have HU9 : Hid (Blk w9 (w.heap.size + 1 + 1) 72 [.int .i64 0, .int .i64 0]) := hide ((hfr _ (by omega) (by omega)).trans HU7.out)
      have HA9 : Hid (PairsAt w9 g n) := hide (by
        have e := hfr g hgL hgb
        refine ⟨by omega, fun j hj => ?_⟩
        rw [World.cell?_of_block (a := ⟨g, j * 2, none⟩) e, World.cell?_of_block (a := ⟨g, j * 2 + 1, none⟩) e]
        exact HA7.out.2 j hj)
      have HL9 := hide hLed9
      clear hnew hown8 hgrow8 hat8 hg9 hLed9 hfr hown p0 p1 hE'
      go_wp2_with fail
      go_roundw
      case rel => exact ⟨k + 1, _, by omega, by go_num, HB9.out, HK9.out, HO9.out, HU9.out, HA9.out, by omega, HL9.out⟩
      case measure => simp [intOf]; omega
    · have hkn : k = N := by omega
      subst hkn
      have k0 := HK.out.cell 0 _ rfl
      have k1 := HK.out.cell 1 _ rfl
      go_wp2_with fail
      clear k0 k1
      refine (size_any _ _ _ _ _ _ _ hnb).mono ?_
      rintro e w4 ⟨rfl, hb4⟩
      have HB4 := hide (HB.out.trans (hb4.mono HB.out.size))
      have HK4 := hide (HK.out.later hb4)
      have HO4 := hide (HO.out.later hb4)
      have HU4 := hide (HU.out.later hb4)
      have HL4 := hide (HLD.out.later hb4)
      clear hb4
      go_wp2_with fail
      refine (pairsOf_any n k _ h12.1 h12.2 HN.out).mono ?_
      rintro e w5 ⟨g2, rfl, hb5, hg5, hpa5⟩
      have HB5 := hide (HB4.out.trans (hb5.mono HB4.out.size))
      have HK5 := hide (HK4.out.later hb5)
      have HO5 := hide (HO4.out.later hb5)
      have HU5 := hide (HU4.out.later hb5)
      have HL5 := hide (HL4.out.later hb5)
      have HA5 := hide hpa5
      clear hb5 hpa5
      go_wp2_with fail
      go_outline
      go_loopw [37] (fun i wr => ∃ j : Nat, j ≤ k ∧ i = .int .i64 j ∧ Below w.heap.size w wr ∧ Blk wr w.heap.size 48 [.slice A n c, .slice B m d] ∧ Blk wr (w.heap.size + 1) 72 [.int .i64 0, .int .i64 0] ∧ Blk wr (w.heap.size + 1 + 1) 72 [.int .i64 0, .int .i64 0] ∧ PairsAt wr g2 n ∧ Led wr (w.heap.size + 1 + 1 + 1) L0 n k f s G ∧ ∀ i, i < j → (ledL f s n (n * n) (ledK f s n i)).length ≤ 1) (fun i _ => k - (intOf i).toNat)
      case atStart => exact ⟨0, Nat.zero_le _, rfl, HB5.out, HK5.out, HO5.out, HU5.out, HA5.out, HL5.out, fun i hi => absurd hi (Nat.not_lt_zero _)⟩
      case round =>
        obtain ⟨j, hj, rfl, hbe, hkk, hoo, huu, hpa, hled, hall⟩ := hrel
        have HBr := hide hbe
        have HKr := hide hkk
        have HOr := hide hoo
        have HUr := hide huu
        have HAr := hide hpa
        have HLr := hide hled
        have HALL := hide hall
        clear hbe hkk hoo huu hpa hled hall
        by_cases hltj : j < k
        · have hjz : (j : Int) < k := by omega
          obtain ⟨p0, p1⟩ := HAr.out.2 j (by rw [HN.out]; exact hltj)
          have hxn : j / n < n := div_lt_sq (by rw [HN.out]; exact hltj)
          have hyn : j % n < n := mod_lt_sq (by rw [HN.out]; exact hltj)
          obtain ⟨x, hx⟩ : ∃ x, j / n = x := ⟨_, rfl⟩
          obtain ⟨y, hy⟩ : ∃ y, j % n = y := ⟨_, rfl⟩
          rw [hx] at p0 hxn
          rw [hy] at p1 hyn
          have HX := hide hx
          have HY := hide hy
          clear hx hy
          have hu := HP.out.lt1 HFL.out hxn hyn
          have hv := HP.out.lt2 HFL.out hxn hyn
          have hq : ledK f s n j = (ap f x y, ap s x y) := by unfold ledK; rw [HX.out, HY.out]
          obtain ⟨u, hue⟩ : ∃ u, ap f x y = u := ⟨_, rfl⟩
          obtain ⟨v, hve⟩ : ∃ v, ap s x y = v := ⟨_, rfl⟩
          rw [hue, hve] at hq
          rw [hue] at hu
          rw [hve] at hv
          have HQ := hide hq
          have HUE := hide hue
          have HVE := hide hve
          have hmem : j ∈ ledL f s n k (u, v) := ledL_mem.2 ⟨hltj, hq⟩
          clear hq hue hve
          have k0 := fun o => (HKr.out.alloc o).cell 0 _ rfl
          have k1 := fun o => (HKr.out.alloc o).cell 1 _ rfl
          go_wp2_with fail
          clear k0 k1 p0 p1
          refine calls_gen fun w6 hw6 => ?_
          obtain ⟨P, hPe⟩ : ∃ P, wr.heap.size = P := ⟨_, rfl⟩
          have hbx : Below wr.heap.size wr w6 := by rw [hw6]; exact (Below.refl _ _).alloc (Nat.le_refl _) _
          have HP6 : Hid (Blk w6 P 72 [.int .i64 x, .int .i64 y]) := hide (by rw [hw6, ← hPe]; exact Blk.new _ _ _)
          have HB6 := hide (HBr.out.trans (hbx.mono HBr.out.size))
          have HK6 := hide (HKr.out.later hbx)
          have HO6 := hide (HOr.out.later hbx)
          have HU6 := hide (HUr.out.later hbx)
          have HA6 := hide (HAr.out.later hbx)
          have HL6 := hide (HLr.out.later hbx)
          have hPlt : w.heap.size + 1 + 1 < P := by rw [← hPe]; exact HUr.out.lt
          rw [hPe]
          clear hw6 hbx hPe
          refine (lead_any _ _ _ f _ _ _ s x y _ (HZ.out.later HB6.out) HP.out hxn hyn).mono ?_
          rintro e w7 ⟨rfl, hb7⟩
          rw [HUE.out, HVE.out]
          have HP7 := hide (HP6.out.later hb7)
          have HB7 := hide (HB6.out.trans (hb7.mono HB6.out.size))
          have HK7 := hide (HK6.out.later hb7)
          have HO7 := hide (HO6.out.later hb7)
          have HU7 := hide (HU6.out.later hb7)
          have HA7 := hide (HA6.out.later hb7)
          have HL7 := hide (HL6.out.later hb7)
          clear hb7
          obtain ⟨V, hMV, hV⟩ := HL7.out.map
          obtain ⟨kl, hkey⟩ := mp_key w7 u v (by omega) (by omega)
          have hlook := hMV.look (t := 99) Try.underlying99 (colZero w7) hkey
          rw [hV (u, v)] at hlook
          have hrow := HL7.out.rows (u, v)
          obtain ⟨len, hlen⟩ : ∃ len, (ledL f s n k (u, v)).length = len := ⟨_, rfl⟩
          have hlen1 : 1 ≤ len := by rw [← hlen]; exact List.length_pos_of_mem hmem
          have hlenk : len ≤ k := by rw [← hlen]; exact ledL_len f s n k (u, v)
          rw [hlen] at hrow
          have hform : ∃ gg cap, G (u, v) = .slice (some ⟨gg, 0, none⟩) len cap := by
            rcases hrow.2 with ⟨_, h0⟩ | ⟨gg, cap, cur, hv9, _⟩
            · omega
            · exact ⟨gg, cap, hv9⟩
          obtain ⟨gg, cap, hG⟩ := hform
          have hcells := hrow.cells (g := gg) (by rw [hG]; rfl)
          have hgg : L0 ≤ gg := (hrow.lt gg (by rw [hG]; rfl)).1
          rw [hG] at hlook
          have hlook' : (Instr.lookup 99 (.map (some (w.heap.size + 1 + 1 + 1))) (.agg #[.int .i64 (u : Int), .int .i64 (v : Int)]) false).run Try.prog w7 = .ok (.slice (some ⟨gg, 0, none⟩) len cap) w7 := hlook
          have HLEN := hide hlen
          have HCELLS := hide hcells
          clear hMV hV hkey hlook hrow hG hlen hcells hmem
          by_cases h1l : 1 < len
          · have hsec := pcs_second n (ledL f s n k (u, v)) (by rw [HLEN.out]; exact h1l)
            have c2 := HCELLS.out 2 _ hsec.1
            have c3 := HCELLS.out 3 _ hsec.2
            simp only [Addr.add, Nat.zero_add] at c2 c3
            have hfst : FstCol f s n j ((ledL f s n k (u, v)).getD 1 0) := by
              have h := FstCol.of_list (f := f) (s := s) (n := n) (k := j) (by rw [HN.out]; exact hltj) HALL.out (by rw [HN.out, HQ.out, HLEN.out]; exact h1l)
              rw [HN.out, HQ.out] at h
              exact h
            obtain ⟨b2, hb2⟩ : ∃ b2, (ledL f s n k (u, v)).getD 1 0 = b2 := ⟨_, rfl⟩
            rw [hb2] at c2 c3 hfst
            obtain ⟨x2, hx2⟩ : ∃ x2, b2 / n = x2 := ⟨_, rfl⟩
            obtain ⟨y2, hy2⟩ : ∃ y2, b2 % n = y2 := ⟨_, rfl⟩
            rw [hx2] at c2
            rw [hy2] at c3
            have HF := hide hfst
            have HX2 := hide hx2
            have HY2 := hide hy2
            have h1z : (1 : Int) < len := by omega
            have p0 := HP7.out.cell 0 _ rfl
            have p1 := HP7.out.cell 1 _ rfl
            have o0 := HO7.out.cell 0 _ rfl
            have o1 := HO7.out.cell 1 _ rfl
            have o2 := HO7.out.frozen 0
            have o3 := HO7.out.frozen 1
            have u0 := HU7.out.cell 0 _ rfl
            have u1 := HU7.out.cell 1 _ rfl
            have u2 := HU7.out.frozen 0
            have u3 := HU7.out.frozen 1
            have c2' : w7.cell? ⟨gg, 2, none⟩ = some (.int .i64 x2) := by simpa using c2
            have c3' : w7.cell? ⟨gg, 3, none⟩ = some (.int .i64 y2) := by simpa using c3
            have d1 : w.heap.size + 1 ≠ P := by omega
            have d2 : w.heap.size + 1 + 1 ≠ P := by omega
            have d3 : w.heap.size + 1 ≠ gg := by omega
            have d4 : w.heap.size + 1 + 1 ≠ gg := by omega
            have d5 := d1.symm
            have d6 := d2.symm
            have d7 := d3.symm
            have d8 := d4.symm
            have n1 : w.heap.size + 1 ≠ w.heap.size + 1 + 1 := by omega
            have n2 := n1.symm
            clear hfst hb2 hx2 hy2 hsec c2 c3
            go_wp2_with fail
            go_region
            clear d1 d2 d3 d4 d5 d6 d7 d8 n1 n2 p0 p1 c2' c3' o0 o1 o2 o3 u0 u1 u2 u3
            all_goals go_wp2_with fail
            all_goals refine bp_gen fun wf hwf => ?_
            all_goals have HRF : Blk wf (w.heap.size + 1) 72 [.int .i64 x, .int .i64 y] := by rw [hwf]; exact (((((HO7.out.set 0 _).set 1 _).far (p := ⟨w.heap.size + 1 + 1, 0, none⟩) (by show w.heap.size + 1 ≠ w.heap.size + 1 + 1; omega) _).far (p := ⟨w.heap.size + 1 + 1, 1, none⟩) (by show w.heap.size + 1 ≠ w.heap.size + 1 + 1; omega) _)).drew
            all_goals have HSF : Blk wf (w.heap.size + 1 + 1) 72 [.int .i64 x2, .int .i64 y2] := by rw [hwf]; exact (((((HU7.out.far (p := ⟨w.heap.size + 1, 0, none⟩) (by show w.heap.size + 1 + 1 ≠ w.heap.size + 1; omega) _).far (p := ⟨w.heap.size + 1, 1, none⟩) (by show w.heap.size + 1 + 1 ≠ w.heap.size + 1; omega) _).set 0 _).set 1 _)).drew
            all_goals have HBF : Below w.heap.size w wf := by rw [hwf]; exact ((((HB7.out.setCell (by show w.heap.size ≤ w.heap.size + 1; omega) _).setCell (by show w.heap.size ≤ w.heap.size + 1; omega) _).setCell (by show w.heap.size ≤ w.heap.size + 1 + 1; omega) _).setCell (by show w.heap.size ≤ w.heap.size + 1 + 1; omega) _).drew
            all_goals have q0 := HRF.cell 0 _ rfl
            all_goals have q1 := HRF.cell 1 _ rfl
            all_goals have q2 := HSF.cell 0 _ rfl
            all_goals have q3 := HSF.cell 1 _ rfl
            all_goals clear hwf
            all_goals exact bodyPost_ret (v := .tuple #[.agg #[.int .i64 x, .int .i64 y], .agg #[.int .i64 x2, .int .i64 y2], .bool true]) (by simp [results, Try.results77, go_sem, q0, q1, q2, q3]) rfl ⟨HBF, .inr ⟨j, b2, HF.out, by rw [HX.out, HY.out, HX2.out, HY2.out]⟩⟩
          · have hl1 : len = 1 := by omega
            subst hl1
            go_wp2_with fail
            go_roundw
            case rel => exact ⟨j + 1, by omega, by go_num, HB7.out, HK7.out, HO7.out, HU7.out, HA7.out, HL7.out, fun i hi => by
              by_cases e : i = j
              · rw [e, HQ.out, HN.out, HLEN.out]; exact Nat.le_refl _
              · exact HALL.out i (by omega)⟩
            case measure => simp [intOf]; omega
        · have hjn : j = k := by omega
          subst hjn
          have hnc : NoCol f s n := NoCol.of_list (fun i hi => HALL.out i (by rw [← HN.out]; exact hi))
          have o0 := HOr.out.cell 0 _ rfl
          have o1 := HOr.out.cell 1 _ rfl
          have o2 := HOr.out.frozen 0
          have o3 := HOr.out.frozen 1
          have u0 := HUr.out.cell 0 _ rfl
          have u1 := HUr.out.cell 1 _ rfl
          have u2 := HUr.out.frozen 0
          have u3 := HUr.out.frozen 1
          have HNC := hide hnc
          clear hnc
          go_wp2_with fail
          clear o0 o1 o2 o3 u0 u1 u2 u3
          refine bp_gen fun wf hwf => ?_
          have HRF : Blk wf (w.heap.size + 1) 72 [.int .i64 0, .int .i64 0] := by rw [hwf]; exact (((((HOr.out.set 0 _).set 1 _).far (p := ⟨w.heap.size + 1 + 1, 0, none⟩) (by show w.heap.size + 1 ≠ w.heap.size + 1 + 1; omega) _).far (p := ⟨w.heap.size + 1 + 1, 1, none⟩) (by show w.heap.size + 1 ≠ w.heap.size + 1 + 1; omega) _))
          have HSF : Blk wf (w.heap.size + 1 + 1) 72 [.int .i64 0, .int .i64 0] := by rw [hwf]; exact (((((HUr.out.far (p := ⟨w.heap.size + 1, 0, none⟩) (by show w.heap.size + 1 + 1 ≠ w.heap.size + 1; omega) _).far (p := ⟨w.heap.size + 1, 1, none⟩) (by show w.heap.size + 1 + 1 ≠ w.heap.size + 1; omega) _).set 0 _).set 1 _))
          have HBF : Below w.heap.size w wf := by rw [hwf]; exact ((((HBr.out.setCell (by show w.heap.size ≤ w.heap.size + 1; omega) _).setCell (by show w.heap.size ≤ w.heap.size + 1; omega) _).setCell (by show w.heap.size ≤ w.heap.size + 1 + 1; omega) _).setCell (by show w.heap.size ≤ w.heap.size + 1 + 1; omega) _)
          have q0 := HRF.cell 0 _ rfl
          have q1 := HRF.cell 1 _ rfl
          have q2 := HSF.cell 0 _ rfl
          have q3 := HSF.cell 1 _ rfl
          clear hwf
          exact bodyPost_ret (v := .tuple #[.agg #[.int .i64 0, .int .i64 0], .agg #[.int .i64 0, .int .i64 0], .bool false]) (by simp [results, Try.results77, go_sem, q0, q1, q2, q3]) rfl ⟨HBF, .inl ⟨HNC.out, rfl⟩⟩
end Go.Proofs.Ytjgjnekpdeffaaa
namespace Go.Proofs.Ytjgjnekpdeffaaa
open Go Go.RowKit
set_option maxHeartbeats 1000000
theorem isI_any (A : Option Addr) (n c : Nat) (f : List (List Int)) (B : Option Addr) (m d : Nat) (s : List (List Int)) (r : Bool) (w : World) (hz : ZArg 1048576 w A n f B m s) (hr : IsRes f s r) :
    Calls Try.prog 50 #[.agg #[.slice A n c, .slice B m d]] w fun e w' => e = .returned (.bool r) ∧ Below w.heap.size w w' := by
  have HZ := hide hz
  have HB0 := hide ((Below.refl _ w).alloc (Nat.le_refl _) (Obj.cells #[Value.slice A n c, Value.slice B m d] 48))
  have HK0 := hide (Blk.new w 48 [.slice A n c, .slice B m d])
  have hcs := hr.cases hz.sz.fl
  clear hr hz
  rcases hcs with ⟨hp, rfl⟩ | ⟨hp, T, hT, hq⟩
  · have HP := hide hp
    clear hp
    go_enter Try.func50, Try.ntmps50
    go_wp2_with fail
    refine (mapI_any _ _ _ f _ _ _ s false _ (HZ.out.later HB0.out) (by simp [HP.out])).mono ?_
    rintro e w1 ⟨rfl, hb1⟩
    have HB1 := hide (HB0.out.trans (hb1.mono HB0.out.size))
    have HK1 := hide (HK0.out.later hb1)
    have k0 := HK1.out.cell 0 _ rfl
    have k1 := HK1.out.cell 1 _ rfl
    clear hb1
    go_wp2_with fail
    go_ret
    exact ⟨rfl, HB1.out⟩
  · have HP := hide hp
    have HT := hide hT
    clear hp hT
    have hq2 : (T < n * n * n ∧ r = false) ∨ (T = n * n * n ∧ (Hid (∃ a b, FstCol f s n a b) ∧ r = false ∨ Hid (NoCol f s n) ∧ r = true)) := by
      rcases hq with ⟨h1, ⟨_, h⟩ | ⟨_, h⟩⟩ | ⟨h1, ⟨h2, h⟩ | ⟨h2, h⟩⟩
      · exact .inl ⟨h1, h⟩
      · exact .inl ⟨h1, h⟩
      · exact .inr ⟨h1, .inl ⟨hide h2, h⟩⟩
      · exact .inr ⟨h1, .inr ⟨hide h2, h⟩⟩
    clear hq
    rcases hq2 with ⟨hlt, rfl⟩ | ⟨hte, ⟨HC, rfl⟩ | ⟨HC, rfl⟩⟩
    · go_enter Try.func50, Try.ntmps50
      go_wp2_with fail
      refine (mapI_any _ _ _ f _ _ _ s true _ (HZ.out.later HB0.out) (by simp [HP.out])).mono ?_
      rintro e w1 ⟨rfl, hb1⟩
      have HB1 := hide (HB0.out.trans (hb1.mono HB0.out.size))
      have HK1 := hide (HK0.out.later hb1)
      have k0 := HK1.out.cell 0 _ rfl
      have k1 := HK1.out.cell 1 _ rfl
      clear hb1
      go_wp2_with fail
      refine (fault_any _ _ _ f _ _ _ s T _ (HZ.out.later HB1.out) HP.out HT.out).mono ?_
      rintro e w2 ⟨t, ok, rfl, hb2, hres⟩
      have HB2 := hide (HB1.out.trans (hb2.mono HB1.out.size))
      have HK2 := hide (HK1.out.later hb2)
      have hok : ok = true := by rcases hres with ⟨h1, h2, _⟩ | ⟨h1, h2⟩ <;> first | exact h1 | omega
      subst hok
      clear hb2 hres k0 k1
      unfold tv
      obtain ⟨x, y, z⟩ := t
      have k0 := fun o => (HK2.out.alloc o).cell 0 _ rfl
      have k1 := fun o => (HK2.out.alloc o).cell 1 _ rfl
      go_wp2_with fail
      clear k0 k1
      refine bp_gen fun wf hwf => ?_
      have HBF : Below w.heap.size w wf := by rw [hwf]; exact HB2.out.alloc HB2.out.size _
      clear hwf
      go_ret
      exact ⟨rfl, HBF⟩
    · go_enter Try.func50, Try.ntmps50
      go_wp2_with fail
      refine (mapI_any _ _ _ f _ _ _ s true _ (HZ.out.later HB0.out) (by simp [HP.out])).mono ?_
      rintro e w1 ⟨rfl, hb1⟩
      have HB1 := hide (HB0.out.trans (hb1.mono HB0.out.size))
      have HK1 := hide (HK0.out.later hb1)
      have k0 := HK1.out.cell 0 _ rfl
      have k1 := HK1.out.cell 1 _ rfl
      clear hb1
      go_wp2_with fail
      refine (fault_any _ _ _ f _ _ _ s T _ (HZ.out.later HB1.out) HP.out HT.out).mono ?_
      rintro e w2 ⟨t, ok, rfl, hb2, hres⟩
      have HB2 := hide (HB1.out.trans (hb2.mono HB1.out.size))
      have HK2 := hide (HK1.out.later hb2)
      have hok : ok = false := by rcases hres with ⟨h1, h2, _⟩ | ⟨h1, h2⟩ <;> first | exact h1 | omega
      subst hok
      clear hb2 hres k0 k1
      unfold tv
      obtain ⟨x, y, z⟩ := t
      have k0 := fun o => (HK2.out.alloc o).cell 0 _ rfl
      have k1 := fun o => (HK2.out.alloc o).cell 1 _ rfl
      go_wp2_with fail
      clear k0 k1
      refine calls_gen fun w4 hw4 => ?_
      replace HB2 : Hid (Below w.heap.size w w4) := hide (by rw [hw4]; exact HB2.out.alloc HB2.out.size _)
      clear hw4 HK2
      refine (coll_any _ _ _ f _ _ _ s _ (HZ.out.later HB2.out) HP.out).mono ?_
      rintro e w3 ⟨hb3, hres⟩
      have HB3 := hide (HB2.out.trans (hb3.mono HB2.out.size))
      clear hb3
      obtain ⟨a, b, hf⟩ := HC.out
      rcases hres with ⟨hno, _⟩ | ⟨a', b', _, rfl⟩
      · exact absurd hno hf.not
      · go_wp2_with fail
        refine bp_gen fun wf hwf => ?_
        have HBF : Below w.heap.size w wf := by rw [hwf]; exact (HB3.out.alloc HB3.out.size _).alloc (by have := HB3.out.size; simp; omega) _
        clear hwf
        go_ret
        exact ⟨rfl, HBF⟩
    · go_enter Try.func50, Try.ntmps50
      go_wp2_with fail
      refine (mapI_any _ _ _ f _ _ _ s true _ (HZ.out.later HB0.out) (by simp [HP.out])).mono ?_
      rintro e w1 ⟨rfl, hb1⟩
      have HB1 := hide (HB0.out.trans (hb1.mono HB0.out.size))
      have HK1 := hide (HK0.out.later hb1)
      have k0 := HK1.out.cell 0 _ rfl
      have k1 := HK1.out.cell 1 _ rfl
      clear hb1
      go_wp2_with fail
      refine (fault_any _ _ _ f _ _ _ s T _ (HZ.out.later HB1.out) HP.out HT.out).mono ?_
      rintro e w2 ⟨t, ok, rfl, hb2, hres⟩
      have HB2 := hide (HB1.out.trans (hb2.mono HB1.out.size))
      have HK2 := hide (HK1.out.later hb2)
      have hok : ok = false := by rcases hres with ⟨h1, h2, _⟩ | ⟨h1, h2⟩ <;> first | exact h1 | omega
      subst hok
      clear hb2 hres k0 k1
      unfold tv
      obtain ⟨x, y, z⟩ := t
      have k0 := fun o => (HK2.out.alloc o).cell 0 _ rfl
      have k1 := fun o => (HK2.out.alloc o).cell 1 _ rfl
      go_wp2_with fail
      clear k0 k1
      refine calls_gen fun w4 hw4 => ?_
      replace HB2 : Hid (Below w.heap.size w w4) := hide (by rw [hw4]; exact HB2.out.alloc HB2.out.size _)
      clear hw4 HK2
      refine (coll_any _ _ _ f _ _ _ s _ (HZ.out.later HB2.out) HP.out).mono ?_
      rintro e w3 ⟨hb3, hres⟩
      have HB3 := hide (HB2.out.trans (hb3.mono HB2.out.size))
      clear hb3
      rcases hres with ⟨_, rfl⟩ | ⟨a', b', hf2, _⟩
      · go_wp2_with fail
        refine bp_gen fun wf hwf => ?_
        have HBF : Below w.heap.size w wf := by rw [hwf]; exact (HB3.out.alloc HB3.out.size _).alloc (by have := HB3.out.size; simp; omega) _
        clear hwf
        go_ret
        exact ⟨rfl, HBF⟩
      · exact absurd HC.out hf2.not
end Go.Proofs.Ytjgjnekpdeffaaa
namespace Go.Proofs.Ytjgjnekpdeffaaa
open Go Go.RowKit
set_option maxHeartbeats 2000000
theorem sqf_div {m a : Nat} (h : a < m * m) : a / m < m := Nat.div_lt_of_lt_mul h
theorem sqf_mod {m a : Nat} (h : a < m * m) : a % m < m := Nat.mod_lt _ (by rcases Nat.eq_zero_or_pos m with e | e; (subst e; simp at h); exact e)
theorem tdivN (a m : Nat) : Int.tdiv (a : Int) (m : Int) = ((a / m : Nat) : Int) := (Int.ofNat_tdiv a m).symm
theorem tmodN (a m : Nat) : Int.tmod (a : Int) (m : Int) = ((a % m : Nat) : Int) := (Int.ofNat_tmod a m).symm

set_option maxRecDepth 100000 in
theorem collS_any (A : Option Addr) (n c : Nat) (f : List (List Int)) (B : Option Addr) (m d : Nat) (s : List (List Int)) (w : World) (hz : ZArg 1048576 w A n f B m s) (hp : PMap f s) :
    Calls Try.prog 73 #[.agg #[.slice A n c, .slice B m d]] w fun e w' => ∃ g k zs, e = .returned (.slice (some ⟨g, 0, none⟩) k k) ∧ Below w.heap.size w w' ∧ w.heap.size ≤ g ∧ OwnB 2 w' g zs ∧ ((NoCol f s n ∧ zs = [] ∧ k = 0) ∨ ∃ a b, FstCol f s n a b ∧ zs = [((a / n : Nat) : Int), ((a % n : Nat) : Int), ((b / n : Nat) : Int), ((b % n : Nat) : Int)] ∧ k = 4) := by
  have hnb := hz.sz.nb
  have HZ := hide hz
  have HB0 := hide ((Below.refl _ w).alloc (Nat.le_refl _) (Obj.cells #[Value.slice A n c, Value.slice B m d] 48))
  have HK0 := hide (Blk.new w 48 [.slice A n c, .slice B m d])
  have HFL := hide hz.sz.fl
  have HP := hide hp
  have h12 := hz.small hp
  obtain rfl := hz.same hp
  have hm0 : (m : Int) ≠ 0 := by omega
  have hm1 : (m : Int) ≠ -1 := by omega
  clear hp hz
  obtain ⟨N, hN⟩ : ∃ N, m * m = N := ⟨_, rfl⟩
  have hN144 : N ≤ 144 := by rw [← hN]; exact Nat.mul_le_mul h12.2 h12.2
  have hNz : (m : Int) * (m : Int) = (N : Int) := by rw [← hN]; exact (Int.natCast_mul m m).symm
  have HN := hide hN
  clear hN
  go_enter Try.func73, Try.ntmps73
  go_wp2_with fail
  go_loopw [4] (fun i wr => ∃ x : Nat, x ≤ N ∧ i = .int .i64 x ∧ Below w.heap.size w wr ∧ Blk wr w.heap.size 48 [.slice A m c, .slice B m d] ∧ ∀ i j, i < x → j < N → j ≠ i → ledK f s m i ≠ ledK f s m j) (fun i _ => N - (intOf i).toNat)
  case atStart => exact ⟨0, Nat.zero_le _, rfl, HB0.out, HK0.out, fun a b ha => absurd ha (Nat.not_lt_zero _)⟩
  case round =>
    obtain ⟨a, ha, rfl, hbe, hkk, hall⟩ := hrel
    have HB := hide hbe
    have HK := hide hkk
    have HALL := hide hall
    clear hbe hkk hall
    by_cases hlt : a < N
    · have haz : (a : Int) < N := by omega
      go_wp2_with fail
      obtain ⟨wo, rfl⟩ : ∃ wo : World, wo = wr := ⟨_, rfl⟩
      go_loopw [5] (fun i wi => ∃ y : Nat, y ≤ N ∧ i = .int .i64 y ∧ Below w.heap.size w wi ∧ Blk wi w.heap.size 48 [.slice A m c, .slice B m d] ∧ ∀ j, j < y → j ≠ a → ledK f s m a ≠ ledK f s m j) (fun i _ => N - (intOf i).toNat)
      case atStart => exact ⟨0, Nat.zero_le _, rfl, HB.out, HK.out, fun b hb => absurd hb (Nat.not_lt_zero _)⟩
      case round =>
        obtain ⟨b, hb, rfl, hbi, hki, halli⟩ := hrel
        have HBI := hide hbi
        have HKI := hide hki
        have HALLI := hide halli
        clear hbi hki halli
        by_cases hlty : b < N
        · have hbz : (b : Int) < N := by omega
          have td1 := tdivN a m
          have td2 := tmodN a m
          have td3 := tdivN b m
          have td4 := tmodN b m
          obtain ⟨x, hx⟩ : ∃ x, a / m = x := ⟨_, rfl⟩
          obtain ⟨y, hy⟩ : ∃ y, a % m = y := ⟨_, rfl⟩
          obtain ⟨u, hu⟩ : ∃ u, b / m = u := ⟨_, rfl⟩
          obtain ⟨v, hv⟩ : ∃ v, b % m = v := ⟨_, rfl⟩
          have hxn : x < m := by rw [← hx]; exact sqf_div (by rw [HN.out]; exact hlt)
          have hyn : y < m := by rw [← hy]; exact sqf_mod (by rw [HN.out]; exact hlt)
          have hun : u < m := by rw [← hu]; exact sqf_div (by rw [HN.out]; exact hlty)
          have hvn : v < m := by rw [← hv]; exact sqf_mod (by rw [HN.out]; exact hlty)
          rw [hx] at td1
          rw [hy] at td2
          rw [hu] at td3
          rw [hv] at td4
          have HX := hide hx
          have HY := hide hy
          have HU := hide hu
          have HV := hide hv
          clear hx hy hu hv
          go_wp2_with fail
          go_region
          clear td1 td2 td3 td4
          have k0 := HKI.out.cell 0 _ rfl
          have k1 := HKI.out.cell 1 _ rfl
          obtain ⟨bb, o, b2, o2, bx, ox, cx, by', oy, cy, rfl, rfl, h1, h2, h3, h4, _, _, _, _⟩ := (HZ.out.later HBI.out).reads HP.out hxn hyn
          obtain ⟨b', o', b2', o2', bu, ou, cu, bv, ov, cv, e1, e2, g1, g2, g3, g4, _, _, _, _⟩ := (HZ.out.later HBI.out).reads HP.out hun hvn
          injection e1 with e1
          injection e1 with e1 e3 _
          injection e2 with e2
          injection e2 with e2 e4 _
          subst e1
          subst e3
          subst e2
          subst e4
          obtain ⟨p1, hp1⟩ : ∃ zz, ap f x y = zz := ⟨_, rfl⟩
          obtain ⟨p2, hp2⟩ : ∃ zz, ap s x y = zz := ⟨_, rfl⟩
          obtain ⟨q1, hq1⟩ : ∃ zz, ap f u v = zz := ⟨_, rfl⟩
          obtain ⟨q2, hq2⟩ : ∃ zz, ap s u v = zz := ⟨_, rfl⟩
          rw [hp1] at h3
          rw [hp2] at h4
          rw [hq1] at g3
          rw [hq2] at g4
          have hka : ledK f s m a = (p1, p2) := by unfold ledK; rw [HX.out, HY.out, hp1, hp2]
          have hkb : ledK f s m b = (q1, q2) := by unfold ledK; rw [HU.out, HV.out, hq1, hq2]
          have HKA := hide hka
          have HKB := hide hkb
          clear hka hkb hp1 hp2 hq1 hq2
          have hxz : (x : Int) < m := by omega
          have hyz : (y : Int) < m := by omega
          have huz : (u : Int) < m := by omega
          have hvz : (v : Int) < m := by omega
          have hcs : (((a : Int) != (b : Int)) = false ∧ Hid (b = a)) ∨ (((a : Int) != (b : Int)) = true ∧ ((p1 : Int) == (q1 : Int)) = false ∧ Hid (ledK f s m a ≠ ledK f s m b)) ∨ (((a : Int) != (b : Int)) = true ∧ ((p1 : Int) == (q1 : Int)) = true ∧ ((p2 : Int) == (q2 : Int)) = false ∧ Hid (ledK f s m a ≠ ledK f s m b)) ∨ (((a : Int) != (b : Int)) = true ∧ ((p1 : Int) == (q1 : Int)) = true ∧ ((p2 : Int) == (q2 : Int)) = true ∧ Hid (b ≠ a ∧ ledK f s m a = ledK f s m b)) := by
            by_cases z0 : b = a
            · exact .inl ⟨by simp [z0], hide z0⟩
            · by_cases z1 : p1 = q1
              · by_cases z2 : p2 = q2
                · exact .inr (.inr (.inr ⟨by simp; omega, by simp [z1], by simp [z2], hide ⟨z0, by rw [HKA.out, HKB.out, z1, z2]⟩⟩))
                · exact .inr (.inr (.inl ⟨by simp; omega, by simp [z1], by simp; omega, hide (by rw [HKA.out, HKB.out]; intro e; injection e with _ e; exact z2 e)⟩))
              · exact .inr (.inl ⟨by simp; omega, by simp; omega, hide (by rw [HKA.out, HKB.out]; intro e; injection e with e _; exact z1 e)⟩)
          rcases hcs with ⟨t1, HT⟩ | ⟨t1, t2, HT⟩ | ⟨t1, t2, t3, HT⟩ | ⟨t1, t2, t3, HT⟩
          · go_wp2_with fail
            go_quiet (fail)
            clear h1 h2 h3 h4 g1 g2 g3 g4 k0 k1
            have hBN := bdrewN HBI.out (1 + nq)
            have hKN := HKI.out.drewN (1 + nq)
            have HBN := hide hBN
            have HKN := hide hKN
            clear hBN hKN
            go_wp2_with fail
            go_roundw
            case rel =>
              exact ⟨b + 1, by omega, by go_num, HBN.out, HKN.out, fun j hj hne => by
                by_cases e : j = b
                · exact absurd (e.trans HT.out) hne
                · exact HALLI.out j (by omega) hne⟩
            case measure => simp [intOf]; omega
          · go_wp2_with fail
            go_quiet (fail)
            clear h1 h2 h3 h4 g1 g2 g3 g4 k0 k1
            have hBN := bdrewN HBI.out (1 + nq)
            have hKN := HKI.out.drewN (1 + nq)
            have HBN := hide hBN
            have HKN := hide hKN
            clear hBN hKN
            go_wp2_with fail
            go_roundw
            case rel =>
              exact ⟨b + 1, by omega, by go_num, HBN.out, HKN.out, fun j hj hne => by
                by_cases e : j = b
                · rw [e]; exact HT.out
                · exact HALLI.out j (by omega) hne⟩
            case measure => simp [intOf]; omega
          · go_wp2_with fail
            go_quiet (fail)
            clear h1 h2 h3 h4 g1 g2 g3 g4 k0 k1
            have hBN := bdrewN HBI.out (1 + nq)
            have hKN := HKI.out.drewN (1 + nq)
            have HBN := hide hBN
            have HKN := hide hKN
            clear hBN hKN
            go_wp2_with fail
            go_roundw
            case rel =>
              exact ⟨b + 1, by omega, by go_num, HBN.out, HKN.out, fun j hj hne => by
                by_cases e : j = b
                · rw [e]; exact HT.out
                · exact HALLI.out j (by omega) hne⟩
            case measure => simp [intOf]; omega
          · go_wp2_with fail
            go_quiet (fail)
            clear h1 h2 h3 h4 g1 g2 g3 g4 k0 k1
            have hBN := bdrewN HBI.out (1 + nq)
            have hKN := HKI.out.drewN (1 + nq)
            have HBN := hide hBN
            have HKN := hide hKN
            clear hBN hKN
            go_wp2_with fail
            refine bp_gen fun wf hwf => ?_
            have HBF : Below w.heap.size w wf := by rw [hwf]; exact HBN.out.alloc HBN.out.size _
            have HOF : OwnB 2 wf (wr.drewN (1 + nq)).heap.size [(x : Int), (y : Int), (u : Int), (v : Int)] := by
              rw [hwf]
              refine ⟨_, heap_alloc_new _ _, fun i hi => ?_⟩
              simp at hi
              rcases i with _ | _ | _ | _ | i
              · rfl
              · rfl
              · rfl
              · rfl
              · omega
            have hlo : w.heap.size ≤ (wr.drewN (1 + nq)).heap.size := HBN.out.size
            clear hwf
            have HFC : Hid (FstCol f s m a b) := hide ⟨by rw [HN.out]; exact hlt, by rw [HN.out]; exact hlty, fun e => HT.out.1 e.symm, HT.out.2, fun i hi j hj => HALL.out i j hi (by rw [← HN.out]; exact hj), fun j hj hne => HALLI.out j hj hne⟩
            go_ret
            exact ⟨_, 4, _, rfl, HBF, hlo, HOF, .inr ⟨a, b, HFC.out, by rw [HX.out, HY.out, HU.out, HV.out], rfl⟩⟩
        · have hyn : b = N := by omega
          subst hyn
          go_wp2_with fail
          go_roundw
          case rel =>
            refine ⟨a + 1, by omega, by go_num, HBI.out, HKI.out, fun i j hi hj hne => ?_⟩
            by_cases e : i = a
            · subst e; exact HALLI.out j hj hne
            · exact HALL.out i j (by omega) hj hne
          case measure => simp [intOf]; omega
    · have hxn : a = N := by omega
      subst hxn
      go_wp2_with fail
      refine bp_gen fun wf hwf => ?_
      have HBF : Below w.heap.size w wf := by rw [hwf]; exact HB.out.alloc HB.out.size _
      have HOF : OwnB 2 wf wr.heap.size [] := by rw [hwf]; exact ⟨_, heap_alloc_new _ _, fun i hi => absurd hi (Nat.not_lt_zero _)⟩
      have hlo : w.heap.size ≤ wr.heap.size := HB.out.size
      clear hwf
      go_ret
      exact ⟨_, 0, [], rfl, HBF, hlo, HOF, .inl ⟨fun i j hi hj hne => HALL.out i j (by rw [← HN.out]; exact hi) (by rw [← HN.out]; exact hj) (fun e => hne e.symm), rfl, rfl⟩⟩
end Go.Proofs.Ytjgjnekpdeffaaa
namespace Go.Proofs.Ytjgjnekpdeffaaa
open Go Go.RowKit
set_option maxHeartbeats 1000000
theorem isS_any (A : Option Addr) (n c : Nat) (f : List (List Int)) (B : Option Addr) (m d : Nat) (s : List (List Int)) (r : Bool) (w : World) (hz : ZArg 1048576 w A n f B m s) (hr : IsRes f s r) :
    Calls Try.prog 48 #[.agg #[.slice A n c, .slice B m d]] w fun e w' => e = .returned (.bool r) ∧ Below w.heap.size w w' := by
  have HZ := hide hz
  have HB0 := hide ((Below.refl _ w).alloc (Nat.le_refl _) (Obj.cells #[Value.slice A n c, Value.slice B m d] 48))
  have HK0 := hide (Blk.new w 48 [.slice A n c, .slice B m d])
  have hcs := hr.cases hz.sz.fl
  clear hr hz
  rcases hcs with ⟨hp, rfl⟩ | ⟨hp, T, hT, hq⟩
  · have HP := hide hp
    clear hp
    go_enter Try.func48, Try.ntmps48
    go_wp2_with fail
    refine (mapS_any _ _ _ f _ _ _ s false _ (HZ.out.later HB0.out) (by simp [HP.out])).mono ?_
    rintro e w1 ⟨rfl, hb1⟩
    have HB1 := hide (HB0.out.trans (hb1.mono HB0.out.size))
    have HK1 := hide (HK0.out.later hb1)
    have k0 := HK1.out.cell 0 _ rfl
    have k1 := HK1.out.cell 1 _ rfl
    clear hb1
    go_wp2_with fail
    go_ret
    exact ⟨rfl, HB1.out⟩
  · have HP := hide hp
    have HT := hide hT
    clear hp hT
    have hq2 : (Hid (∃ a b, FstCol f s n a b) ∧ r = false) ∨ (Hid (NoCol f s n) ∧ ((T < n * n * n ∧ r = false) ∨ (T = n * n * n ∧ r = true))) := by
      rcases hq with ⟨h1, ⟨h2, h⟩ | ⟨h2, h⟩⟩ | ⟨h1, ⟨h2, h⟩ | ⟨h2, h⟩⟩
      · exact .inr ⟨hide h2, .inl ⟨h1, h⟩⟩
      · exact .inl ⟨hide h2, h⟩
      · exact .inl ⟨hide h2, h⟩
      · exact .inr ⟨hide h2, .inr ⟨h1, h⟩⟩
    clear hq
    rcases hq2 with ⟨HC, rfl⟩ | ⟨HC, ⟨hlt, rfl⟩ | ⟨hte, rfl⟩⟩
    · go_enter Try.func48, Try.ntmps48
      go_wp2_with fail
      refine (mapS_any _ _ _ f _ _ _ s true _ (HZ.out.later HB0.out) (by simp [HP.out])).mono ?_
      rintro e w1 ⟨rfl, hb1⟩
      have HB1 := hide (HB0.out.trans (hb1.mono HB0.out.size))
      have HK1 := hide (HK0.out.later hb1)
      have k0 := HK1.out.cell 0 _ rfl
      have k1 := HK1.out.cell 1 _ rfl
      clear hb1
      go_wp2_with fail
      refine (collS_any _ _ _ f _ _ _ s _ (HZ.out.later HB1.out) HP.out).mono ?_
      rintro e w2 ⟨g, q, ys, rfl, hb2, _, _, hres⟩
      have HB2 := hide (HB1.out.trans (hb2.mono HB1.out.size))
      have HK2 := hide (HK1.out.later hb2)
      have hq9 : q = 4 := by obtain ⟨a, b, hf⟩ := HC.out; rcases hres with ⟨hno, _⟩ | ⟨a', b', _, _, h⟩; exact absurd hno hf.not; exact h
      subst hq9
      clear hb2 hres k0 k1
      have k0 := HK2.out.cell 0 _ rfl
      have k1 := HK2.out.cell 1 _ rfl
      go_wp2_with fail
      go_ret
      exact ⟨rfl, HB2.out⟩
    · go_enter Try.func48, Try.ntmps48
      go_wp2_with fail
      refine (mapS_any _ _ _ f _ _ _ s true _ (HZ.out.later HB0.out) (by simp [HP.out])).mono ?_
      rintro e w1 ⟨rfl, hb1⟩
      have HB1 := hide (HB0.out.trans (hb1.mono HB0.out.size))
      have HK1 := hide (HK0.out.later hb1)
      have k0 := HK1.out.cell 0 _ rfl
      have k1 := HK1.out.cell 1 _ rfl
      clear hb1
      go_wp2_with fail
      refine (collS_any _ _ _ f _ _ _ s _ (HZ.out.later HB1.out) HP.out).mono ?_
      rintro e w2 ⟨g, q, ys, rfl, hb2, _, _, hres⟩
      have HB2 := hide (HB1.out.trans (hb2.mono HB1.out.size))
      have HK2 := hide (HK1.out.later hb2)
      have hq9 : q = 0 := by rcases hres with ⟨_, _, h⟩ | ⟨a', b', hf2, _⟩; exact h; exact absurd HC.out hf2.not
      subst hq9
      clear hb2 hres k0 k1
      have k0 := HK2.out.cell 0 _ rfl
      have k1 := HK2.out.cell 1 _ rfl
      go_wp2_with fail
      refine (faultS_any _ _ _ f _ _ _ s T _ (HZ.out.later HB2.out) HP.out HT.out).mono ?_
      rintro e w3 ⟨g3, q3, ys3, rfl, hb3, _, _, hres⟩
      have HB3 := hide (HB2.out.trans (hb3.mono HB2.out.size))
      have hq9 : q3 = 3 := by rcases hres with ⟨h1, _, h2⟩ | ⟨h1, _, h2⟩ <;> omega
      subst hq9
      clear hb3 hres k0 k1
      go_wp2_with fail
      go_ret
      exact ⟨rfl, HB3.out⟩
    · go_enter Try.func48, Try.ntmps48
      go_wp2_with fail
      refine (mapS_any _ _ _ f _ _ _ s true _ (HZ.out.later HB0.out) (by simp [HP.out])).mono ?_
      rintro e w1 ⟨rfl, hb1⟩
      have HB1 := hide (HB0.out.trans (hb1.mono HB0.out.size))
      have HK1 := hide (HK0.out.later hb1)
      have k0 := HK1.out.cell 0 _ rfl
      have k1 := HK1.out.cell 1 _ rfl
      clear hb1
      go_wp2_with fail
      refine (collS_any _ _ _ f _ _ _ s _ (HZ.out.later HB1.out) HP.out).mono ?_
      rintro e w2 ⟨g, q, ys, rfl, hb2, _, _, hres⟩
      have HB2 := hide (HB1.out.trans (hb2.mono HB1.out.size))
      have HK2 := hide (HK1.out.later hb2)
      have hq9 : q = 0 := by rcases hres with ⟨_, _, h⟩ | ⟨a', b', hf2, _⟩; exact h; exact absurd HC.out hf2.not
      subst hq9
      clear hb2 hres k0 k1
      have k0 := HK2.out.cell 0 _ rfl
      have k1 := HK2.out.cell 1 _ rfl
      go_wp2_with fail
      refine (faultS_any _ _ _ f _ _ _ s T _ (HZ.out.later HB2.out) HP.out HT.out).mono ?_
      rintro e w3 ⟨g3, q3, ys3, rfl, hb3, _, _, hres⟩
      have HB3 := hide (HB2.out.trans (hb3.mono HB2.out.size))
      have hq9 : q3 = 0 := by rcases hres with ⟨h1, _, h2⟩ | ⟨h1, _, h2⟩ <;> omega
      subst hq9
      clear hb3 hres k0 k1
      go_wp2_with fail
      go_ret
      exact ⟨rfl, HB3.out⟩
end Go.Proofs.Ytjgjnekpdeffaaa
namespace Go.Proofs.Ytjgjnekpdeffaaa
open Go Go.RowKit
set_option maxHeartbeats 1000000

theorem gcd_any (a b : Nat) (w : World) (ha : a ≤ 1000000000000000000) (hb : b ≤ 1000000000000000000) :
    Calls Try.prog 34 #[.int .i64 a, .int .i64 b] w fun e w' => e = .returned (.int .i64 (Nat.gcd a b)) ∧ Quiet w w' := by
  go_enter Try.func34, Try.ntmps34
  go_wp2_with fail
  go_loopw [0, 1] (fun x y wr => ∃ u v : Nat, x = .int .i64 u ∧ y = .int .i64 v ∧ u ≤ 1000000000000000000 ∧ v ≤ 1000000000000000000 ∧ Nat.gcd u v = Nat.gcd a b ∧ Quiet w wr) (fun _ y _ => (intOf y).toNat)
  case atStart => exact ⟨a, b, rfl, rfl, ha, hb, rfl, Quiet.refl _⟩
  case round =>
    obtain ⟨u, v, rfl, rfl, hu, hv, hg, hq⟩ := hrel
    have HG := hide hg
    have HQ := hide hq
    clear hg hq
    by_cases hv0 : v = 0
    · subst hv0
      have hgu : Nat.gcd a b = u := by rw [← HG.out]; simp
      go_wp2_with fail
      go_ret
      exact ⟨by rw [hgu]; rfl, HQ.out⟩
    · have hv0z : ¬ (v : Int) = 0 := by omega
      have hne : ((v : Int) != 0) = true := by simpa using hv0
      have hmod : ((u : Int)).tmod (v : Int) = ((u % v : Nat) : Int) := by rw [Int.ofNat_tmod]
      have hlt : u % v < v := Nat.mod_lt u (by omega)
      have hgg : Nat.gcd v (u % v) = Nat.gcd a b := by rw [← HG.out, Nat.gcd_comm u v, Nat.gcd_rec v u, Nat.gcd_comm]
      obtain ⟨m, hm⟩ : ∃ m, u % v = m := ⟨_, rfl⟩
      rw [hm] at hmod hlt hgg
      have HGG := hide hgg
      clear hm hgg
      go_wp2_with fail
      go_region
      go_wp2_with fail
      go_roundw
      case rel => exact ⟨v, m, rfl, rfl, hv, by omega, HGG.out, HQ.out.drewN 1⟩
      case measure => simp [intOf]; omega
end Go.Proofs.Ytjgjnekpdeffaaa
namespace Go.Proofs.Ytjgjnekpdeffaaa
open Go Go.RowKit
set_option maxHeartbeats 1000000

theorem lcm_any (a b : Nat) (w : World) (ha : 1 ≤ a) (hb : 1 ≤ b) (hab : a * b ≤ 1000000000000000000) :
    Calls Try.prog 54 #[.int .i64 a, .int .i64 b] w fun e w' => e = .returned (.int .i64 (Nat.lcm a b)) ∧ Quiet w w' := by
  have ha2 : a ≤ 1000000000000000000 := Nat.le_trans (Nat.le_mul_of_pos_right a hb) hab
  have hb2 : b ≤ 1000000000000000000 := Nat.le_trans (Nat.le_mul_of_pos_left b ha) hab
  obtain ⟨u, hu⟩ : ∃ u, Nat.gcd a b = u := ⟨_, rfl⟩
  have hud : u ∣ a := by rw [← hu]; exact Nat.gcd_dvd_left a b
  have hu1 : 1 ≤ u := by rw [← hu]; exact Nat.gcd_pos_of_pos_left b ha
  have hula : u ≤ a := Nat.le_of_dvd ha hud
  have hq1 : ((a : Int)).tdiv (u : Int) = ((a / u : Nat) : Int) := by rw [Int.ofNat_tdiv]
  have hq2 : a / u ≤ a := Nat.div_le_self a u
  have hl : a / u * b = Nat.lcm a b := by
    unfold Nat.lcm
    rw [hu, Nat.div_mul_right_comm hud]
  have hle : a / u * b ≤ 1000000000000000000 := Nat.le_trans (Nat.mul_le_mul_right b hq2) hab
  obtain ⟨m, hm⟩ : ∃ m, a / u = m := ⟨_, rfl⟩
  rw [hm] at hq1 hl hle hq2
  have hl2 : ((m : Int)) * (b : Int) = ((Nat.lcm a b : Nat) : Int) := by rw [← hl]; simp
  have hl3 : Nat.lcm a b ≤ 1000000000000000000 := by rw [← hl]; exact hle
  obtain ⟨r, hr⟩ : ∃ r, Nat.lcm a b = r := ⟨_, rfl⟩
  rw [hr] at hl2 hl3 ⊢
  have hu0 : ¬ (u : Int) = 0 := by omega
  have HU := hide hu
  clear hud hm hl hle hr hab hu
  go_enter Try.func54, Try.ntmps54
  go_wp2_with fail
  refine (gcd_any a b _ ha2 hb2).mono ?_
  rintro e w1 ⟨rfl, hq1'⟩
  rw [HU.out]
  have HQ := hide hq1'
  clear hq1'
  go_wp2_with fail
  go_ret
  exact ⟨rfl, HQ.out⟩
end Go.Proofs.Ytjgjnekpdeffaaa
namespace Go.Proofs.Ytjgjnekpdeffaaa
open Go Go.RowKit
set_option maxHeartbeats 1000000
theorem natnd_leO (D : List Nat) (n : Nat) (hr : ∀ v ∈ D, v < n) (hn : D.Nodup) : D.length ≤ n := by
  obtain ⟨l, hl⟩ := subset_perm D (List.range n) hn (fun a ha => List.mem_range.2 (hr a ha))
  have := hl.length_eq
  rw [List.length_range, List.length_append] at this
  omega

open Classical
def itf (g : Nat → Nat) : Nat → Nat → Nat
  | 0, y => y
  | k + 1, y => g (itf g k y)
theorem itf_lt {g : Nat → Nat} {N : Nat} (hg : ∀ y, y < N → g y < N) (k y : Nat) (hy : y < N) : itf g k y < N := by
  induction k with
  | zero => exact hy
  | succ k ih => exact hg _ ih
theorem itf_add (g : Nat → Nat) (a b y : Nat) : itf g (a + b) y = itf g a (itf g b y) := by
  induction a with
  | zero => rw [Nat.zero_add]; rfl
  | succ a ih => rw [Nat.succ_add]; unfold itf; rw [ih]
theorem itf_inj {g : Nat → Nat} {N : Nat} (hg : ∀ y, y < N → g y < N) (hi : ∀ y z, y < N → z < N → g y = g z → y = z) (k y z : Nat) (hy : y < N) (hz : z < N) (h : itf g k y = itf g k z) : y = z := by
  induction k with
  | zero => exact h
  | succ k ih =>
    unfold itf at h
    exact ih (hi _ _ (itf_lt hg k y hy) (itf_lt hg k z hz) h)
/-- How many times lead back, at most N. -/
theorem itf_some {g : Nat → Nat} {N : Nat} (hg : ∀ y, y < N → g y < N) (hi : ∀ y z, y < N → z < N → g y = g z → y = z) (y : Nat) (hy : y < N) : ∃ k, 1 ≤ k ∧ k ≤ N ∧ itf g k y = y := by
  by_cases h : ∃ i j, i < j ∧ j ≤ N ∧ itf g i y = itf g j y
  · obtain ⟨i, j, hij, hj, e⟩ := h
    refine ⟨j - i, by omega, by omega, ?_⟩
    have e2 : j = i + (j - i) := by omega
    rw [e2, itf_add] at e
    exact (itf_inj hg hi i y _ hy (itf_lt hg _ y hy) e).symm
  · have hnd : ((List.range (N + 1)).map fun k => itf g k y).Nodup := by
      rw [List.nodup_iff_pairwise_ne, List.pairwise_map]
      refine List.Pairwise.imp_of_mem ?_ List.pairwise_lt_range
      intro a b ha hb hab e
      exact h ⟨a, b, hab, by have := List.mem_range.1 hb; omega, e⟩
    have := natnd_leO _ N (fun v hv => by
      obtain ⟨k, _, e⟩ := List.mem_map.1 hv
      rw [← e]
      exact itf_lt hg k y hy) hnd
    simp at this
    omega
def IsLen (g : Nat → Nat) (y L : Nat) : Prop := 1 ≤ L ∧ itf g L y = y ∧ ∀ j, 1 ≤ j → j < L → itf g j y ≠ y
theorem isLen_ex {g : Nat → Nat} {N : Nat} (hg : ∀ y, y < N → g y < N) (hi : ∀ y z, y < N → z < N → g y = g z → y = z) (y : Nat) (hy : y < N) : ∃ L, L ≤ N ∧ IsLen g y L := by
  obtain ⟨k, h1, h2, h3⟩ := itf_some hg hi y hy
  have key : ∀ m, (∃ L, L ≤ m ∧ IsLen g y L) ∨ ∀ j, 1 ≤ j → j ≤ m → itf g j y ≠ y := by
    intro m
    induction m with
    | zero => exact .inr (fun j a b => by omega)
    | succ m ih =>
      rcases ih with ⟨L, hl, h⟩ | h
      · exact .inl ⟨L, by omega, h⟩
      · by_cases e : itf g (m + 1) y = y
        · exact .inl ⟨m + 1, Nat.le_refl _, by omega, e, fun j a b => h j a (by omega)⟩
        · exact .inr (fun j a b => by
            by_cases e2 : j = m + 1
            · rw [e2]; exact e
            · exact h j a (by omega))
  rcases key k with ⟨L, hl, h⟩ | h
  · exact ⟨L, by omega, h⟩
  · exact absurd h3 (h k h1 (Nat.le_refl _))
/-- The pair map on the numbers of the pairs. -/
def stpN (f s : List (List Int)) (n k : Nat) : Nat := ap f (k / n) (k % n) * n + ap s (k / n) (k % n)
theorem stpN_div {f s : List (List Int)} {n : Nat} (hp : PMap f s) (hn : f.length = n) {k : Nat} (hk : k < n * n) : stpN f s n k / n = ap f (k / n) (k % n) ∧ stpN f s n k % n = ap s (k / n) (k % n) ∧ stpN f s n k < n * n := by
  have hn0 : 0 < n := by rcases Nat.eq_zero_or_pos n with e | e; (subst e; simp at hk); exact e
  have hx : k / n < n := Nat.div_lt_of_lt_mul hk
  have hy : k % n < n := Nat.mod_lt _ hn0
  have h1 := hp.1.ap_lt hn hx hy
  have h2 := hp.2.1.ap_lt (by rw [← hp.2.2]; exact hn) hx hy
  refine ⟨pair_div n _ _ h2, pair_mod n _ _ h2, ?_⟩
  unfold stpN
  have h3 : ap f (k / n) (k % n) + 1 ≤ n := h1
  have h4 := Nat.mul_le_mul_right n h3
  rw [Nat.add_mul, Nat.one_mul] at h4
  omega
noncomputable def lenN (f s : List (List Int)) (n k : Nat) : Nat := if h : ∃ L, L ≤ n * n ∧ IsLen (stpN f s n) k L then Classical.choose h else 1
theorem lenN_of {f s : List (List Int)} {n : Nat} (hp : PMap f s) (hn : f.length = n) (hc : NoCol f s n) {k : Nat} (hk : k < n * n) : lenN f s n k ≤ n * n ∧ IsLen (stpN f s n) k (lenN f s n k) := by
  have h := isLen_ex (g := stpN f s n) (N := n * n) (fun y hy => (stpN_div hp hn hy).2.2) (fun y z hy hz e => by
    have a := stpN_div hp hn hy
    have b := stpN_div hp hn hz
    rw [e] at a
    refine Classical.byContradiction (fun hne => hc y z hy hz hne ?_)
    unfold ledK
    rw [← a.1, ← a.2.1, b.1, b.2.1]) k hk
  unfold lenN
  rw [dif_pos h]
  exact Classical.choose_spec h
noncomputable def ordN (f s : List (List Int)) (n : Nat) : Nat → Nat
  | 0 => 1
  | k + 1 => Nat.lcm (ordN f s n k) (lenN f s n k)
theorem ordN_base (f s : List (List Int)) (n : Nat) : ∀ j, j ≤ 0 → ordN f s n j ≤ 1000000 := fun j hj => by
  have e : j = 0 := by omega
  subst e
  unfold ordN
  omega
def OsRes (f s : List (List Int)) (v : Int) (code : Int) : Prop :=
  (SolF f s ∧ (∀ k, k ≤ f.length * f.length → ordN f s f.length k ≤ 1000000) ∧ v = (ordN f s f.length (f.length * f.length) : Int) ∧ code = 0) ∨ (SolF f s ∧ ¬ (∀ k, k ≤ f.length * f.length → ordN f s f.length k ≤ 1000000) ∧ v = 0 ∧ code = 3) ∨ (¬ SolF f s ∧ v = 0 ∧ code = 1)
theorem OsRes.ex (f s : List (List Int)) : ∃ v code, OsRes f s v code := by
  by_cases h : SolF f s
  · by_cases h2 : ∀ k, k ≤ f.length * f.length → ordN f s f.length k ≤ 1000000
    · exact ⟨_, _, .inl ⟨h, h2, rfl, rfl⟩⟩
    · exact ⟨_, _, .inr (.inl ⟨h, h2, rfl, rfl⟩)⟩
  · exact ⟨_, _, .inr (.inr ⟨h, rfl, rfl⟩)⟩
theorem OsRes.bad {f s : List (List Int)} {v code : Int} (h : OsRes f s v code) (hs : ¬ SolF f s) : v = 0 ∧ code = 1 := by
  rcases h with ⟨h, _⟩ | ⟨h, _⟩ | ⟨_, h⟩
  · exact absurd h hs
  · exact absurd h hs
  · exact h
theorem OsRes.lim {f s : List (List Int)} {v code : Int} {n k : Nat} (h : OsRes f s v code) (hn : f.length = n) (hs : SolF f s) (hk : k ≤ n * n) (hl : ¬ ordN f s n k ≤ 1000000) : v = 0 ∧ code = 3 := by
  subst hn
  rcases h with ⟨_, h, _⟩ | ⟨_, _, h⟩ | ⟨h, _⟩
  · exact absurd (h k hk) hl
  · exact h
  · exact absurd hs h
theorem OsRes.fin {f s : List (List Int)} {v code : Int} {n : Nat} (h : OsRes f s v code) (hn : f.length = n) (hs : SolF f s) (hl : ∀ k, k ≤ n * n → ordN f s n k ≤ 1000000) : v = (ordN f s n (n * n) : Int) ∧ code = 0 := by
  subst hn
  rcases h with ⟨_, _, h⟩ | ⟨_, h, _⟩ | ⟨h, _⟩
  · exact h
  · exact absurd hl h
  · exact absurd hs h
theorem ordN_pos {f s : List (List Int)} {n : Nat} (hl : ∀ k, k < n * n → 1 ≤ lenN f s n k) : ∀ k, k ≤ n * n → 1 ≤ ordN f s n k
  | 0, _ => Nat.le_refl _
  | k + 1, hk => Nat.lcm_pos (ordN_pos hl k (by omega)) (hl k (by omega))
end Go.Proofs.Ytjgjnekpdeffaaa
namespace Go.Proofs.Ytjgjnekpdeffaaa
open Go Go.RowKit
set_option maxHeartbeats 2000000

set_option maxRecDepth 100000 in
theorem osI_any (A : Option Addr) (n c : Nat) (f : List (List Int)) (B : Option Addr) (m d : Nat) (s : List (List Int)) (v code : Int) (w : World) (hz : ZArg 1048576 w A n f B m s) (hr : OsRes f s v code) :
    Calls Try.prog 28 #[.agg #[.slice A n c, .slice B m d]] w fun e w' => e = .returned (.tuple #[.int .i64 v, .int .i64 code]) ∧ Below w.heap.size w w' := by
  have hnb := hz.sz.nb
  have HZ := hide hz
  have HFL := hide hz.sz.fl
  have HB0 := hide ((Below.refl _ w).alloc (Nat.le_refl _) (Obj.cells #[Value.slice A n c, Value.slice B m d] 48))
  have HK0 := hide (Blk.new w 48 [.slice A n c, .slice B m d])
  have HR := hide hr
  by_cases hs : SolF f s
  · have HS := hide hs
    have HP := hide hs.1
    have hc := hs.2.1
    rw [hz.sz.fl] at hc
    have HC := hide hc
    have h12 := hz.small hs.1
    clear hz hr hs hc
    obtain ⟨N, hN⟩ : ∃ N, n * n = N := ⟨_, rfl⟩
    have hN144 : N ≤ 144 := by rw [← hN]; exact sq_le n h12.2
    have HN := hide hN
    clear hN
    go_enter Try.func28, Try.ntmps28
    go_wp2_with fail
    refine (isI_any _ _ _ f _ _ _ s true _ (HZ.out.later HB0.out) (by simp [IsRes, HS.out])).mono ?_
    rintro e w1 ⟨rfl, hb1⟩
    have HB1 := hide (HB0.out.trans (hb1.mono HB0.out.size))
    have HK1 := hide (HK0.out.later hb1)
    have k0 := HK1.out.cell 0 _ rfl
    have k1 := HK1.out.cell 1 _ rfl
    clear hb1
    go_wp2_with fail
    clear k0 k1
    refine (size_any _ _ _ _ _ _ _ hnb).mono ?_
    rintro e w2 ⟨rfl, hb2⟩
    have HB2 := hide (HB1.out.trans (hb2.mono HB1.out.size))
    have HK2 := hide (HK1.out.later hb2)
    clear hb2
    go_wp2_with fail
    refine (pairsOf_any n N _ h12.1 h12.2 HN.out).mono ?_
    rintro e w3 ⟨g, rfl, hb3, hg3, hpa⟩
    have HB3 := hide (HB2.out.trans (hb3.mono HB2.out.size))
    have HK3 := hide (HK2.out.later hb3)
    have HPA3 := hide hpa
    clear hb3 hpa
    go_wp2_with fail
    go_outline
    go_loopw [16, 4] (fun i o wr => ∃ k : Nat, k ≤ N ∧ i = .int .i64 k ∧ o = .int .i64 (ordN f s n k) ∧ Below w.heap.size w wr ∧ Blk wr w.heap.size 48 [.slice A n c, .slice B m d] ∧ PairsAt wr g n ∧ ∀ j, j ≤ k → ordN f s n j ≤ 1000000) (fun i _ _ => N - (intOf i).toNat)
    case atStart => exact ⟨0, Nat.zero_le _, rfl, rfl, HB3.out, HK3.out, HPA3.out, ordN_base f s n⟩
    case round =>
      obtain ⟨k, hk, rfl, rfl, hbe, hkk, hpa, hall⟩ := hrel
      have HB := hide hbe
      have HK := hide hkk
      have HPA := hide hpa
      have HALL := hide hall
      clear hbe hkk hpa hall
      by_cases hlt : k < N
      · have hkz : (k : Int) < N := by omega
        obtain ⟨p0, p1⟩ := HPA.out.2 k (by rw [HN.out]; exact hlt)
        have hxn : k / n < n := div_lt_sq (by rw [HN.out]; exact hlt)
        have hyn : k % n < n := mod_lt_sq (by rw [HN.out]; exact hlt)
        have hlen := lenN_of HP.out HFL.out HC.out (k := k) (by rw [HN.out]; exact hlt)
        have hpos := ordN_pos (f := f) (s := s) (n := n) (fun j hj => (lenN_of HP.out HFL.out HC.out (k := j) hj).2.1) k (by rw [HN.out]; exact hk)
        obtain ⟨L, hL⟩ : ∃ L, lenN f s n k = L := ⟨_, rfl⟩
        obtain ⟨o, ho⟩ : ∃ o, ordN f s n k = o := ⟨_, rfl⟩
        have ho6 : o ≤ 1000000 := by rw [← ho]; exact HALL.out k (Nat.le_refl _)
        have hnext : ordN f s n (k + 1) = Nat.lcm o L := by rw [← ho, ← hL]; rfl
        rw [hL, HN.out] at hlen
        rw [ho] at hpos
        rw [ho]
        obtain ⟨hL144, hL1, hLe, hLn⟩ := hlen
        have HNEXT := hide hnext
        have HLE := hide hLe
        have HLN := hide hLn
        have HLL := hide hL
        have HO := hide ho
        clear hL ho hLe hLn hnext
        obtain ⟨x, hx⟩ : ∃ x, k / n = x := ⟨_, rfl⟩
        obtain ⟨y, hy⟩ : ∃ y, k % n = y := ⟨_, rfl⟩
        rw [hx] at p0 hxn
        rw [hy] at p1 hyn
        have HX := hide hx
        have HY := hide hy
        clear hx hy
        have hstep1 := stpN_div HP.out HFL.out (k := k) (by rw [HN.out]; exact hlt)
        rw [HX.out, HY.out] at hstep1
        have k0 := fun o => (HK.out.alloc o).cell 0 _ rfl
        have k1 := fun o => (HK.out.alloc o).cell 1 _ rfl
        go_wp2_with fail
        clear k0 k1 p0 p1
        refine calls_gen fun w4 hw4 => ?_
        obtain ⟨P, hPe⟩ : ∃ P, wr.heap.size = P := ⟨_, rfl⟩
        have hbx : Below wr.heap.size wr w4 := by rw [hw4]; exact (Below.refl _ _).alloc (Nat.le_refl _) _
        have HP4 : Hid (Blk w4 P 72 [.int .i64 x, .int .i64 y]) := hide (by rw [hw4, ← hPe]; exact Blk.new _ _ _)
        have HB4 := hide (HB.out.trans (hbx.mono HB.out.size))
        have HK4 := hide (HK.out.later hbx)
        have HA4 := hide (HPA.out.later hbx)
        rw [hPe]
        clear hw4 hbx hPe
        refine (lead_any _ _ _ f _ _ _ s x y _ (HZ.out.later HB4.out) HP.out hxn hyn).mono ?_
        rintro e w5 ⟨rfl, hb5⟩
        have HP5 := hide (HP4.out.later hb5)
        have HB5 := hide (HB4.out.trans (hb5.mono HB4.out.size))
        have HK5 := hide (HK4.out.later hb5)
        have HA5 := hide (HA4.out.later hb5)
        clear hb5
        obtain ⟨u, hue⟩ : ∃ u, ap f x y = u := ⟨_, rfl⟩
        obtain ⟨v9, hve⟩ : ∃ v9, ap s x y = v9 := ⟨_, rfl⟩
        rw [hue, hve] at hstep1
        rw [hue, hve]
        have HST := hide hstep1
        clear hue hve hstep1
        go_wp2_with fail
        go_outline
        go_loopw [7, 8] (fun l q wi => ∃ (j Q a b : Nat), l = .int .i64 j ∧ q = .pointer (some ⟨Q, 0, none⟩) ∧ 1 ≤ j ∧ j ≤ L ∧ a < n ∧ b < n ∧ a = itf (stpN f s n) j k / n ∧ b = itf (stpN f s n) j k % n ∧ Below w5.heap.size w5 wi ∧ w5.heap.size ≤ Q ∧ Blk wi Q 72 [.int .i64 a, .int .i64 b]) (fun l _ _ => L - (intOf l).toNat)
        case atStart =>
          refine ⟨1, _, u, v9, rfl, rfl, Nat.le_refl _, hL1, ?_, ?_, HST.out.1.symm, HST.out.2.1.symm, (Below.refl _ _).alloc (Nat.le_refl _) _, Nat.le_refl _, Blk.new _ _ _⟩
          · rw [← HST.out.1]; exact div_lt_sq HST.out.2.2
          · rw [← HST.out.2.1]; exact mod_lt_sq HST.out.2.2
        case round =>
          obtain ⟨j, Q, a, b, rfl, rfl, hj1, hjL, han, hbn, ha, hb, hbi, hQ, hq⟩ := hrel
          have HA9 := hide ha
          have HB9 := hide hb
          have HBI := hide hbi
          have HQB := hide hq
          have HKI := hide (HK5.out.later hbi)
          have HPI := hide (HP5.out.later hbi)
          clear ha hb hbi hq
          have p0 := HPI.out.cell 0 _ rfl
          have p1 := HPI.out.cell 1 _ rfl
          have q0 := HQB.out.cell 0 _ rfl
          have q1 := HQB.out.cell 1 _ rfl
          have hcs : (((a : Int) == (x : Int)) = false ∧ Hid (itf (stpN f s n) j k ≠ k)) ∨ (((a : Int) == (x : Int)) = true ∧ ((b : Int) == (y : Int)) = false ∧ Hid (itf (stpN f s n) j k ≠ k)) ∨ (((a : Int) == (x : Int)) = true ∧ ((b : Int) == (y : Int)) = true ∧ Hid (itf (stpN f s n) j k = k)) := by
            by_cases z1 : a = x
            · by_cases z2 : b = y
              · refine .inr (.inr ⟨by simp [z1], by simp [z2], hide ?_⟩)
                have e1 : itf (stpN f s n) j k / n = k / n := by rw [← HA9.out, HX.out, z1]
                have e2 : itf (stpN f s n) j k % n = k % n := by rw [← HB9.out, HY.out, z2]
                have d1 := Nat.div_add_mod (itf (stpN f s n) j k) n
                have d2 := Nat.div_add_mod k n
                rw [e1, e2] at d1
                rw [← d1, d2]
              · exact .inr (.inl ⟨by simp [z1], by simp; omega, hide (fun e => z2 (by rw [HB9.out, e, HY.out]))⟩)
            · exact .inl ⟨by simp; omega, hide (fun e => z1 (by rw [HA9.out, e, HX.out]))⟩
          rcases hcs with ⟨t1, HNE⟩ | ⟨t1, t2, HNE⟩ | ⟨t1, t2, HEQ⟩
          · have hjl : j < L := by
              by_cases e : j = L
              · exact absurd (by rw [e]; exact HLE.out) HNE.out
              · omega
            have k0 := fun o => (HKI.out.alloc o).cell 0 _ rfl
            have k1 := fun o => (HKI.out.alloc o).cell 1 _ rfl
            go_wp2_with fail
            clear k0 k1 p0 p1 q0 q1
            refine calls_gen fun w6 hw6 => ?_
            obtain ⟨Q2, hQ2⟩ : ∃ Q2, wr.heap.size = Q2 := ⟨_, rfl⟩
            have HB6 : Hid (Below w5.heap.size w5 w6) := hide (by rw [hw6]; exact HBI.out.alloc HBI.out.size _)
            have HQ6 : Hid (Blk w6 Q2 72 [.int .i64 a, .int .i64 b]) := hide (by rw [hw6, ← hQ2]; exact Blk.new _ _ _)
            have hlo : w5.heap.size ≤ Q2 := by rw [← hQ2]; exact HBI.out.size
            rw [hQ2]
            clear hw6 hQ2
            refine (lead_any _ _ _ f _ _ _ s a b _ (HZ.out.later (HB5.out.trans (HB6.out.mono HB5.out.size))) HP.out han hbn).mono ?_
            rintro e w7 ⟨rfl, hb7⟩
            have HB7 := hide (HB6.out.trans (hb7.mono HB6.out.size))
            have HQ7 := hide (HQ6.out.later hb7)
            clear hb7
            have hk9 : itf (stpN f s n) j k < n * n := itf_lt (fun y hy => (stpN_div HP.out HFL.out hy).2.2) j k (by rw [HN.out]; exact hlt)
            have hstep2 := stpN_div HP.out HFL.out hk9
            rw [← HA9.out, ← HB9.out] at hstep2
            have hu := HP.out.lt1 HFL.out han hbn
            have hv := HP.out.lt2 HFL.out han hbn
            obtain ⟨u2, hue2⟩ : ∃ u2, ap f a b = u2 := ⟨_, rfl⟩
            obtain ⟨v2, hve2⟩ : ∃ v2, ap s a b = v2 := ⟨_, rfl⟩
            rw [hue2, hve2] at hstep2
            rw [hue2] at hu
            rw [hve2] at hv
            rw [hue2, hve2]
            have HST2 := hide hstep2
            clear hue2 hve2 hstep2
            have q0 := HQ7.out.cell 0 _ rfl
            have q1 := HQ7.out.cell 1 _ rfl
            have q2 := HQ7.out.frozen 0
            have q3 := HQ7.out.frozen 1
            go_wp2_with fail
            clear q0 q1 q2 q3
            go_roundw
            case rel => exact ⟨j + 1, Q2, u2, v2, by go_num, rfl, by omega, by omega, hu, hv, HST2.out.1.symm, HST2.out.2.1.symm, (HB7.out.setCell (p := ⟨Q2, 0, none⟩) hlo _).setCell (p := ⟨Q2, 1, none⟩) hlo _, hlo, (HQ7.out.set 0 _).set 1 _⟩
            case measure => simp [intOf]; omega
          · have hjl : j < L := by
              by_cases e : j = L
              · exact absurd (by rw [e]; exact HLE.out) HNE.out
              · omega
            have k0 := fun o => (HKI.out.alloc o).cell 0 _ rfl
            have k1 := fun o => (HKI.out.alloc o).cell 1 _ rfl
            go_wp2_with fail
            clear k0 k1 p0 p1 q0 q1
            refine calls_gen fun w6 hw6 => ?_
            obtain ⟨Q2, hQ2⟩ : ∃ Q2, wr.heap.size = Q2 := ⟨_, rfl⟩
            have HB6 : Hid (Below w5.heap.size w5 w6) := hide (by rw [hw6]; exact HBI.out.alloc HBI.out.size _)
            have HQ6 : Hid (Blk w6 Q2 72 [.int .i64 a, .int .i64 b]) := hide (by rw [hw6, ← hQ2]; exact Blk.new _ _ _)
            have hlo : w5.heap.size ≤ Q2 := by rw [← hQ2]; exact HBI.out.size
            rw [hQ2]
            clear hw6 hQ2
            refine (lead_any _ _ _ f _ _ _ s a b _ (HZ.out.later (HB5.out.trans (HB6.out.mono HB5.out.size))) HP.out han hbn).mono ?_
            rintro e w7 ⟨rfl, hb7⟩
            have HB7 := hide (HB6.out.trans (hb7.mono HB6.out.size))
            have HQ7 := hide (HQ6.out.later hb7)
            clear hb7
            have hk9 : itf (stpN f s n) j k < n * n := itf_lt (fun y hy => (stpN_div HP.out HFL.out hy).2.2) j k (by rw [HN.out]; exact hlt)
            have hstep2 := stpN_div HP.out HFL.out hk9
            rw [← HA9.out, ← HB9.out] at hstep2
            have hu := HP.out.lt1 HFL.out han hbn
            have hv := HP.out.lt2 HFL.out han hbn
            obtain ⟨u2, hue2⟩ : ∃ u2, ap f a b = u2 := ⟨_, rfl⟩
            obtain ⟨v2, hve2⟩ : ∃ v2, ap s a b = v2 := ⟨_, rfl⟩
            rw [hue2, hve2] at hstep2
            rw [hue2] at hu
            rw [hve2] at hv
            rw [hue2, hve2]
            have HST2 := hide hstep2
            clear hue2 hve2 hstep2
            have q0 := HQ7.out.cell 0 _ rfl
            have q1 := HQ7.out.cell 1 _ rfl
            have q2 := HQ7.out.frozen 0
            have q3 := HQ7.out.frozen 1
            go_wp2_with fail
            clear q0 q1 q2 q3
            go_roundw
            case rel => exact ⟨j + 1, Q2, u2, v2, by go_num, rfl, by omega, by omega, hu, hv, HST2.out.1.symm, HST2.out.2.1.symm, (HB7.out.setCell (p := ⟨Q2, 0, none⟩) hlo _).setCell (p := ⟨Q2, 1, none⟩) hlo _, hlo, (HQ7.out.set 0 _).set 1 _⟩
            case measure => simp [intOf]; omega
          · have hjl : j = L := by
              by_cases e : j = L
              · exact e
              · exact absurd HEQ.out (HLN.out j hj1 (by omega))
            subst hjl
            go_wp2_with fail
            clear p0 p1 q0 q1
            have hprod : o * j ≤ 1000000000000000000 := by
              have := Nat.mul_le_mul ho6 (show j ≤ 144 by omega)
              omega
            refine (lcm_any o j _ hpos hj1 hprod).mono ?_
            rintro e w6 ⟨rfl, hq6⟩
            have HB6 := hide (HBI.out.trans (hq6.below _))
            have HBF := hide (HB5.out.trans (HB6.out.mono HB5.out.size))
            have HKF := hide (HK5.out.later HB6.out)
            have HAF := hide (HA5.out.later HB6.out)
            obtain ⟨o2, ho2⟩ : ∃ o2, Nat.lcm o j = o2 := ⟨_, rfl⟩
            rw [ho2]
            have hord : ordN f s n (k + 1) = o2 := by rw [HNEXT.out, ho2]
            have HORD := hide hord
            clear hq6 ho2 hord
            by_cases hlim : o2 ≤ 1000000
            · have hlz : ¬ ((1000000 : Int) < (o2 : Int)) := by omega
              go_wp2_with fail
              go_roundw
              case rel => exact ⟨k + 1, by omega, by go_num, by rw [HORD.out], HBF.out, HKF.out, HAF.out, fun i hi => by
                by_cases e : i = k + 1
                · rw [e, HORD.out]; exact hlim
                · exact HALL.out i (by omega)⟩
              case measure => simp [intOf]; omega
            · have hlz : ((1000000 : Int) < (o2 : Int)) := by omega
              obtain ⟨hv, hcd⟩ := HR.out.lim HFL.out HS.out (k := k + 1) (by rw [HN.out]; omega) (by rw [HORD.out]; exact hlim)
              subst hv
              subst hcd
              go_wp2_with fail
              go_ret2
              exact ⟨rfl, HBF.out⟩
      · have hkn : k = N := by omega
        subst hkn
        obtain ⟨hv, hcd⟩ := HR.out.fin HFL.out HS.out (by rw [HN.out]; exact HALL.out)
        rw [HN.out] at hv
        subst hv
        subst hcd
        go_wp2_with fail
        go_ret2
        exact ⟨rfl, HB.out⟩
  · obtain ⟨rfl, rfl⟩ := HR.out.bad hs
    have HS := hide hs
    clear hz hr hs
    go_enter Try.func28, Try.ntmps28
    go_wp2_with fail
    refine (isI_any _ _ _ f _ _ _ s false _ (HZ.out.later HB0.out) (by simp [IsRes, HS.out])).mono ?_
    rintro e w1 ⟨rfl, hb1⟩
    have HB1 := hide (HB0.out.trans (hb1.mono HB0.out.size))
    go_wp2_with fail
    go_ret2
    exact ⟨rfl, HB1.out⟩
end Go.Proofs.Ytjgjnekpdeffaaa
namespace Go.Proofs.Ytjgjnekpdeffaaa
open Go Go.RowKit
set_option maxHeartbeats 2000000

theorem comS_any (a b : Nat) (w : World) (ha1 : 1 ≤ a) (ha : a ≤ 1000000000) (hb : b ≤ 1000000000) :
    Calls Try.prog 49 #[.int .i64 a, .int .i64 b] w fun e w' => e = .returned (.int .i64 (Nat.gcd a b)) ∧ Quiet w w' := by
  go_enter Try.func49, Try.ntmps49
  go_wp2_with fail
  go_loopw [0, 1] (fun x y wr => ∃ u v : Nat, x = .int .i64 u ∧ y = .int .i64 v ∧ 1 ≤ u ∧ u ≤ 1000000000 ∧ v ≤ 1000000000 ∧ Nat.gcd u v = Nat.gcd a b ∧ Quiet w wr) (fun _ y _ => (intOf y).toNat)
  case atStart => exact ⟨a, b, rfl, rfl, ha1, ha, hb, rfl, Quiet.refl _⟩
  case round =>
    obtain ⟨u, v, rfl, rfl, hu1, hu, hv, hg, hq⟩ := hrel
    have HG := hide hg
    have HQ := hide hq
    clear hg hq
    by_cases hv0 : v = 0
    · subst hv0
      have hgu : Nat.gcd a b = u := by rw [← HG.out]; simp
      have HGU := hide hgu
      clear hgu
      go_wp2_with fail
      go_ret
      exact ⟨by rw [HGU.out]; rfl, HQ.out⟩
    · have hv0z : ¬ (v : Int) = 0 := by omega
      have hv1z : (0 : Int) < (v : Int) := by omega
      have hne : ((v : Int) != 0) = true := by simpa using hv0
      have hmod : ((u : Int)).tmod (v : Int) = ((u % v : Nat) : Int) := by rw [Int.ofNat_tmod]
      have hlt : u % v < v := Nat.mod_lt u (by omega)
      have hgg : Nat.gcd v (u % v) = Nat.gcd a b := by rw [← HG.out, Nat.gcd_comm u v, Nat.gcd_rec v u, Nat.gcd_comm]
      obtain ⟨m, hm⟩ : ∃ m, u % v = m := ⟨_, rfl⟩
      rw [hm] at hmod hlt hgg
      have HGG := hide hgg
      clear hm hgg
      go_wp2_with fail
      go_roundw
      case rel => exact ⟨v, m, rfl, rfl, by omega, hv, by omega, HGG.out, HQ.out⟩
      case measure => simp [intOf]; omega
end Go.Proofs.Ytjgjnekpdeffaaa
namespace Go.Proofs.Ytjgjnekpdeffaaa
open Go Go.RowKit
set_option maxHeartbeats 2000000

set_option maxRecDepth 100000 in
theorem osS_any (A : Option Addr) (n c : Nat) (f : List (List Int)) (B : Option Addr) (m d : Nat) (s : List (List Int)) (v code : Int) (w : World) (hz : ZArg 1048576 w A n f B m s) (hr : OsRes f s v code) :
    Calls Try.prog 26 #[.agg #[.slice A n c, .slice B m d]] w fun e w' => e = .returned (.tuple #[.int .i64 v, .int .i64 code]) ∧ Below w.heap.size w w' := by
  have HZ := hide hz
  have HFL := hide hz.sz.fl
  have HB0 := hide ((Below.refl _ w).alloc (Nat.le_refl _) (Obj.cells #[Value.slice A n c, Value.slice B m d] 48))
  have HK0 := hide (Blk.new w 48 [.slice A n c, .slice B m d])
  have HR := hide hr
  by_cases hs : SolF f s
  · have HS := hide hs
    have HP := hide hs.1
    have hc := hs.2.1
    rw [hz.sz.fl] at hc
    have h12 := hz.small hs.1
    obtain rfl := hz.same hs.1
    have HC := hide hc
    clear hz hr hs hc
    go_enter Try.func26, Try.ntmps26
    go_wp2_with fail
    refine (isS_any _ _ _ f _ _ _ s true _ (HZ.out.later HB0.out) (by simp [IsRes, HS.out])).mono ?_
    rintro e w1 ⟨rfl, hb1⟩
    have HB1 := hide (HB0.out.trans (hb1.mono HB0.out.size))
    have HK1 := hide (HK0.out.later hb1)
    have k0 := HK1.out.cell 0 _ rfl
    have k1 := HK1.out.cell 1 _ rfl
    clear hb1
    go_wp2_with fail
    clear k0 k1
    go_loopw [5, 6] (fun o i wr => ∃ x : Nat, x ≤ m ∧ i = .int .i64 x ∧ o = .int .i64 (ordN f s m (x * m)) ∧ Below w.heap.size w wr ∧ Blk wr w.heap.size 48 [.slice A m c, .slice B m d] ∧ ∀ j, j ≤ x * m → ordN f s m j ≤ 1000000) (fun _ i _ => m - (intOf i).toNat)
    case atStart => exact ⟨0, Nat.zero_le _, rfl, by rw [Nat.zero_mul]; rfl, HB1.out, HK1.out, by rw [Nat.zero_mul]; exact ordN_base f s m⟩
    case round =>
      obtain ⟨x, hx, rfl, rfl, hbe, hkk, hall⟩ := hrel
      have HB := hide hbe
      have HK := hide hkk
      have HALL := hide hall
      clear hbe hkk hall
      by_cases hlt : x < m
      · have hxz : (x : Int) < m := by omega
        obtain ⟨o0, ho0⟩ : ∃ o0, ordN f s m (x * m) = o0 := ⟨_, rfl⟩
        rw [ho0]
        have HO0 := hide ho0
        clear ho0
        go_wp2_with fail
        obtain ⟨wo, rfl⟩ : ∃ wo : World, wo = wr := ⟨_, rfl⟩
        go_loopw [5, 7] (fun o i wi => ∃ y : Nat, y ≤ m ∧ i = .int .i64 y ∧ o = .int .i64 (ordN f s m (x * m + y)) ∧ Below w.heap.size w wi ∧ Blk wi w.heap.size 48 [.slice A m c, .slice B m d] ∧ ∀ j, j ≤ x * m + y → ordN f s m j ≤ 1000000) (fun _ i _ => m - (intOf i).toNat)
        case atStart => exact ⟨0, Nat.zero_le _, rfl, by rw [Nat.add_zero, HO0.out], HB.out, HK.out, HALL.out⟩
        case round =>
          obtain ⟨y, hy, rfl, rfl, hbi, hki, halli⟩ := hrel
          have HBI := hide hbi
          have HKI := hide hki
          have HALLI := hide halli
          clear hbi hki halli
          by_cases hlty : y < m
          · have hyz : (y : Int) < m := by omega
            obtain ⟨K, hK⟩ : ∃ K, x * m + y = K := ⟨_, rfl⟩
            have hKx : K / m = x := by rw [← hK]; exact pair_div m x y hlty
            have hKy : K % m = y := by rw [← hK]; exact pair_mod m x y hlty
            have hKN : K < m * m := by
              have h9 := Nat.mul_le_mul_right m (show x + 1 ≤ m from hlt)
              rw [Nat.add_mul, Nat.one_mul] at h9
              omega
            have hlen := lenN_of HP.out HFL.out HC.out hKN
            have hpos := ordN_pos (f := f) (s := s) (n := m) (fun j hj => (lenN_of HP.out HFL.out HC.out (k := j) hj).2.1) K (by omega)
            have hmm : m * m ≤ 144 := Nat.mul_le_mul h12.2 h12.2
            rw [hK]
            obtain ⟨L, hL⟩ : ∃ L, lenN f s m K = L := ⟨_, rfl⟩
            obtain ⟨o, ho⟩ : ∃ o, ordN f s m K = o := ⟨_, rfl⟩
            have ho6 : o ≤ 1000000 := by rw [← ho]; exact HALLI.out K (by omega)
            have hnext : ordN f s m (K + 1) = Nat.lcm o L := by rw [← ho, ← hL]; rfl
            rw [hL] at hlen
            rw [ho] at hpos
            rw [ho]
            obtain ⟨hLN, hL1, hLe, hLn⟩ := hlen
            have hL144 : L ≤ 144 := by omega
            have HNEXT := hide hnext
            have HLE := hide hLe
            have HLN := hide hLn
            have HKK := hide hK
            have HKX := hide hKx
            have HKY := hide hKy
            have HKN := hide hKN
            have hstep1 := stpN_div HP.out HFL.out hKN
            rw [hKx, hKy] at hstep1
            clear hL ho hLe hLn hnext hK hKx hKy hKN hLN hmm
            have k0 := HKI.out.cell 0 _ rfl
            have k1 := HKI.out.cell 1 _ rfl
            obtain ⟨bb, oo, b2, o2, bx, ox, cx, by', oy, cy, rfl, rfl, h1, h2, h3, h4, _, _, _, _⟩ := (HZ.out.later HBI.out).reads HP.out hlt hlty
            obtain ⟨u, hue⟩ : ∃ u, ap f x y = u := ⟨_, rfl⟩
            obtain ⟨v9, hve⟩ : ∃ v9, ap s x y = v9 := ⟨_, rfl⟩
            rw [hue, hve] at hstep1
            rw [hue] at h3
            rw [hve] at h4
            have HST := hide hstep1
            have HU := hide hue
            have HV := hide hve
            clear hue hve hstep1
            go_wp2_with fail
            go_quiet (fail)
            clear h1 h2 h3 h4 k0 k1
            have hun : u < m := by rw [← HST.out.1]; exact Nat.div_lt_of_lt_mul HST.out.2.2
            have hvn : v9 < m := by rw [← HST.out.2.1]; exact Nat.mod_lt _ (by omega)
            have hBN := bdrewN HBI.out nq
            have hKN := HKI.out.drewN nq
            obtain ⟨W, hW⟩ : ∃ W, wr.drewN nq = W := ⟨_, rfl⟩
            rw [hW] at hBN hKN
            rw [hW]
            have HBN := hide hBN
            have HKN2 := hide hKN
            clear hBN hKN hW
            go_wp2_with fail
            go_outline
            go_loopw [8, 9, 10] (fun p q l wi => ∃ (j a b : Nat), p = .int .i64 a ∧ q = .int .i64 b ∧ l = .int .i64 j ∧ wi = W ∧ 1 ≤ j ∧ j ≤ L ∧ a < m ∧ b < m ∧ a = itf (stpN f s m) j K / m ∧ b = itf (stpN f s m) j K % m) (fun _ _ l _ => L - (intOf l).toNat)
            case atStart => exact ⟨1, u, v9, rfl, rfl, rfl, rfl, Nat.le_refl _, hL1, hun, hvn, HST.out.1.symm, HST.out.2.1.symm⟩
            case round =>
              obtain ⟨j, a, b, rfl, rfl, rfl, rfl, hj1, hjL, han, hbn, ha, hb⟩ := hrel
              have HA9 := hide ha
              have HB9 := hide hb
              clear ha hb
              have hcs : (((a : Int) != (x : Int)) = true ∧ Hid (itf (stpN f s m) j K ≠ K)) ∨ (((a : Int) != (x : Int)) = false ∧ ((b : Int) != (y : Int)) = true ∧ Hid (itf (stpN f s m) j K ≠ K)) ∨ (((a : Int) != (x : Int)) = false ∧ ((b : Int) != (y : Int)) = false ∧ Hid (itf (stpN f s m) j K = K)) := by
                by_cases z1 : a = x
                · by_cases z2 : b = y
                  · refine .inr (.inr ⟨by simp [z1], by simp [z2], hide ?_⟩)
                    have e1 : itf (stpN f s m) j K / m = K / m := by rw [← HA9.out, HKX.out, z1]
                    have e2 : itf (stpN f s m) j K % m = K % m := by rw [← HB9.out, HKY.out, z2]
                    have d1 := Nat.div_add_mod (itf (stpN f s m) j K) m
                    have d2 := Nat.div_add_mod K m
                    rw [e1, e2] at d1
                    rw [← d1, d2]
                  · exact .inr (.inl ⟨by simp [z1], by simp; omega, hide (fun e => z2 (by rw [HB9.out, e, HKY.out]))⟩)
                · exact .inl ⟨by simp; omega, hide (fun e => z1 (by rw [HA9.out, e, HKX.out]))⟩
              rcases hcs with ⟨t1, HNE⟩ | ⟨t1, t2, HNE⟩ | ⟨t1, t2, HEQ⟩
              · have hjl : j < L := by
                  by_cases e : j = L
                  · exact absurd (by rw [e]; exact HLE.out) HNE.out
                  · omega
                have k0 := HKN2.out.cell 0 _ rfl
                have k1 := HKN2.out.cell 1 _ rfl
                obtain ⟨b', o', b2', o2', bu, ou, cu, bv, ov, cv, e1, e2, g1, g2, g3, g4, _, _, _, _⟩ := (HZ.out.later HBN.out).reads HP.out han hbn
                injection e1 with e1
                injection e1 with e1 e3 _
                injection e2 with e2
                injection e2 with e2 e4 _
                subst e1
                subst e3
                subst e2
                subst e4
                have hk9 : itf (stpN f s m) j K < m * m := itf_lt (fun y hy => (stpN_div HP.out HFL.out hy).2.2) j K HKN.out
                have hstep2 := stpN_div HP.out HFL.out hk9
                rw [← HA9.out, ← HB9.out] at hstep2
                have hu := HP.out.lt1 HFL.out han hbn
                have hv := HP.out.lt2 HFL.out han hbn
                obtain ⟨u2, hue2⟩ : ∃ u2, ap f a b = u2 := ⟨_, rfl⟩
                obtain ⟨v2, hve2⟩ : ∃ v2, ap s a b = v2 := ⟨_, rfl⟩
                rw [hue2, hve2] at hstep2
                rw [hue2] at hu g3
                rw [hve2] at hv g4
                have HST2 := hide hstep2
                have haz : (a : Int) < m := by omega
                have hbz : (b : Int) < m := by omega
                clear hue2 hve2 hstep2
                go_wp2_with fail
                clear g1 g2 g3 g4 k0 k1
                go_roundw
                case rel => exact ⟨j + 1, u2, v2, rfl, rfl, by go_num, (by first | exact trivial | rfl), by omega, by omega, hu, hv, HST2.out.1.symm, HST2.out.2.1.symm⟩
                case measure => simp [intOf]; omega
              · have hjl : j < L := by
                  by_cases e : j = L
                  · exact absurd (by rw [e]; exact HLE.out) HNE.out
                  · omega
                have k0 := HKN2.out.cell 0 _ rfl
                have k1 := HKN2.out.cell 1 _ rfl
                obtain ⟨b', o', b2', o2', bu, ou, cu, bv, ov, cv, e1, e2, g1, g2, g3, g4, _, _, _, _⟩ := (HZ.out.later HBN.out).reads HP.out han hbn
                injection e1 with e1
                injection e1 with e1 e3 _
                injection e2 with e2
                injection e2 with e2 e4 _
                subst e1
                subst e3
                subst e2
                subst e4
                have hk9 : itf (stpN f s m) j K < m * m := itf_lt (fun y hy => (stpN_div HP.out HFL.out hy).2.2) j K HKN.out
                have hstep2 := stpN_div HP.out HFL.out hk9
                rw [← HA9.out, ← HB9.out] at hstep2
                have hu := HP.out.lt1 HFL.out han hbn
                have hv := HP.out.lt2 HFL.out han hbn
                obtain ⟨u2, hue2⟩ : ∃ u2, ap f a b = u2 := ⟨_, rfl⟩
                obtain ⟨v2, hve2⟩ : ∃ v2, ap s a b = v2 := ⟨_, rfl⟩
                rw [hue2, hve2] at hstep2
                rw [hue2] at hu g3
                rw [hve2] at hv g4
                have HST2 := hide hstep2
                have haz : (a : Int) < m := by omega
                have hbz : (b : Int) < m := by omega
                clear hue2 hve2 hstep2
                go_wp2_with fail
                clear g1 g2 g3 g4 k0 k1
                go_roundw
                case rel => exact ⟨j + 1, u2, v2, rfl, rfl, by go_num, (by first | exact trivial | rfl), by omega, by omega, hu, hv, HST2.out.1.symm, HST2.out.2.1.symm⟩
                case measure => simp [intOf]; omega
              · have hjl : j = L := by
                  by_cases e : j = L
                  · exact e
                  · exact absurd HEQ.out (HLN.out j hj1 (by omega))
                subst hjl
                go_wp2_with fail
                refine (comS_any o j _ hpos (by omega) (by omega)).mono ?_
                rintro e w6 ⟨rfl, hq6⟩
                have HBF := hide (HBN.out.trans (hq6.below _))
                have HKF := hide (HKN2.out.later (hq6.below _))
                have hg1 : Nat.gcd o j ∣ o := Nat.gcd_dvd_left o j
                have hl : o / Nat.gcd o j * j = Nat.lcm o j := by
                  unfold Nat.lcm
                  rw [Nat.div_mul_right_comm hg1]
                have hg0 : 0 < Nat.gcd o j := Nat.gcd_pos_of_pos_left _ hpos
                obtain ⟨gg, hgg⟩ : ∃ gg, Nat.gcd o j = gg := ⟨_, rfl⟩
                rw [hgg] at hl hg0
                rw [hgg]
                have hq1 : ((o : Int)).tdiv (gg : Int) = ((o / gg : Nat) : Int) := by rw [Int.ofNat_tdiv]
                have hq2 : o / gg ≤ o := Nat.div_le_self o gg
                obtain ⟨mm, hm⟩ : ∃ mm, o / gg = mm := ⟨_, rfl⟩
                rw [hm] at hq1 hl hq2
                have hmj : mm * j ≤ 144000000 := by
                  have := Nat.mul_le_mul (Nat.le_trans hq2 ho6) (show j ≤ 144 by omega)
                  omega
                obtain ⟨o2, ho2⟩ : ∃ o2, Nat.lcm o j = o2 := ⟨_, rfl⟩
                have hl2 : ((mm : Int)) * (j : Int) = (o2 : Int) := by rw [← ho2, ← hl]; simp
                have ho2b : o2 ≤ 144000000 := by rw [← ho2, ← hl]; exact hmj
                have hord : ordN f s m (K + 1) = o2 := by rw [HNEXT.out, ho2]
                have HORD := hide hord
                have hgz : ¬ (gg : Int) = 0 := by omega
                have hgz2 : ¬ (gg : Int) = -1 := by omega
                clear hq6 ho2 hord hgg hm hl hmj hg1
                by_cases hlim : o2 ≤ 1000000
                · have hlz : ¬ ((1000000 : Int) < (o2 : Int)) := by omega
                  go_wp2_with fail
                  go_roundw
                  case rel => exact ⟨y + 1, by omega, by go_num, by rw [← Nat.add_assoc, HKK.out, HORD.out], HBF.out, HKF.out, fun i hi => by
                    by_cases e : i = K + 1
                    · rw [e, HORD.out]; exact hlim
                    · exact HALLI.out i (by have := HKK.out; omega)⟩
                  case measure => simp [intOf]; omega
                · have hlz : ((1000000 : Int) < (o2 : Int)) := by omega
                  obtain ⟨hv, hcd⟩ := HR.out.lim HFL.out HS.out (k := K + 1) HKN.out (by rw [HORD.out]; exact hlim)
                  subst hv
                  subst hcd
                  go_wp2_with fail
                  go_ret2
                  exact ⟨rfl, HBF.out⟩
          · have hyn : y = m := by omega
            subst hyn
            go_wp2_with fail
            go_roundw
            case rel => exact ⟨x + 1, by omega, by go_num, by rw [Nat.add_mul, Nat.one_mul], HBI.out, HKI.out, by rw [Nat.add_mul, Nat.one_mul]; exact HALLI.out⟩
            case measure => simp [intOf]; omega
      · have hxn : x = m := by omega
        subst hxn
        obtain ⟨hv, hcd⟩ := HR.out.fin HFL.out HS.out HALL.out
        subst hv
        subst hcd
        go_wp2_with fail
        go_ret2
        exact ⟨rfl, HB.out⟩
  · obtain ⟨rfl, rfl⟩ := HR.out.bad hs
    have HS := hide hs
    clear hz hr hs
    go_enter Try.func26, Try.ntmps26
    go_wp2_with fail
    refine (isS_any _ _ _ f _ _ _ s false _ (HZ.out.later HB0.out) (by simp [IsRes, HS.out])).mono ?_
    rintro e w1 ⟨rfl, hb1⟩
    have HB1 := hide (HB0.out.trans (hb1.mono HB0.out.size))
    go_wp2_with fail
    go_ret2
    exact ⟨rfl, HB1.out⟩
end Go.Proofs.Ytjgjnekpdeffaaa
