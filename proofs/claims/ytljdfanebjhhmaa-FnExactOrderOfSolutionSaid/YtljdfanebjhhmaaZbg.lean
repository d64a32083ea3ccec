import Derived.Test.YtljdfanebjhhmaaProg
import Derived.Test.YtljdfanebjhhmaaZa
import Derived.ChangeKeysEq
import Derived.Maps.Own
import Derived.Maps.Views
import Derived.WideKeyEntry
import Derived.DeepKeys4
import Derived.MapViews
import Derived.WalkArith
namespace Go.Proofs.Ytljdfanebjhhmaa
open Go Go.RowKit
theorem e3Info : (Try.prog.info? 2).map (fun i => (i.zero, i.size, i.bytes)) = some (some (.int .i64 0), 1, 8) := by kernel_rfl
theorem eq3_run (a b c a' b' c' : Int) (w : World) : (Op.equalIn 10000 99 (.agg #[.int .i64 a, .int .i64 b, .int .i64 c]) (.agg #[.int .i64 a', .int .i64 b', .int .i64 c'])).run Try.prog w = .ok (decide (a = a' ∧ b = b' ∧ c = c')) w := by
  obtain ⟨i0, hi, hz0, hz1, hz2⟩ := info_parts e3Info
  have hc : Try.prog.cellsOf 2 = 1 := by kernel_rfl
  have hp : Try.prog.plainKey 2 = true := by kernel_rfl
  have hu := Try.underlying2
  rw [run_equalIn_array _ 9999 _ _ Try.underlying99 hi, hc]
  have h3 : List.range 3 = [0, 1, 2] := rfl
  rw [h3]
  have pa : ∀ (x y z : Int) (i : Nat) (v : Value), (#[Value.int .i64 x, .int .i64 y, .int .i64 z])[i]? = some v → (part 2 #[Value.int .i64 x, .int .i64 y, .int .i64 z] i).run Try.prog w = .ok v w := fun x y z i v h => run_part_plain w hp h
  have e : ∀ x y : Int, (Op.equalIn 9999 2 (.int .i64 x) (.int .i64 y)).run Try.prog w = .ok (x == y) w := fun x y => run_equalIn_int w 9998 _ .i64 .i64 x y hu
  have p0 := fun x y z => pa x y z 0 _ rfl
  have p1 := fun x y z => pa x y z 1 _ rfl
  have p2 := fun x y z => pa x y z 2 _ rfl
  have ie : ∀ x y : Int, (x == y) = decide (x = y) := fun x y => rfl
  by_cases h1 : a = a'
  · by_cases h2 : b = b'
    · by_cases h3 : c = c'
      · simp [Op.eqItems, Sem.run_bind, h1, h2, h3, p0, p1, p2, e]
      · simp [Op.eqItems, Sem.run_bind, h1, h2, h3, p0, p1, p2, e, ie]
    · simp [Op.eqItems, Sem.run_bind, h1, h2, p0, p1, e, ie]
  · simp [Op.eqItems, Sem.run_bind, h1, p0, e, ie]
end Go.Proofs.Ytljdfanebjhhmaa
namespace Go.Proofs.Ytljdfanebjhhmaa
open Go Go.RowKit Go.ChangeShapes Go.WideShapes
open Go.ChangeMaps (setBlock heap_setBlock_same heap_setBlock_other)
open Go.WideElems (Fit)
open Classical
set_option maxRecDepth 100000

/-- An element of a map reads as itself. -/
def tokR : Value → Option (DataW Value × List MemPlace) := fun v => some (.held v, [])
def pkey (x y : Nat) : Value := .agg #[.int .i64 x, .int .i64 y]
theorem pkey_inj {x y u v : Nat} (h : pkey x y = pkey u v) : x = u ∧ y = v := by
  unfold pkey at h
  injection h with h
  injection h with h
  injection h with h1 h2
  injection h2 with h2 _
  injection h1 with _ h1
  injection h2 with _ h2
  omega
theorem mp_laid : laidOutB Try.prog = true := by kernel_rfl
theorem mp_row : (84 : TypeId) < Try.prog.types.size := of_decide_eq_true (by kernel_rfl)
theorem mp_deep : Try.prog.keyTypeAt (Try.prog.types.size + 1) 84 = true := by kernel_rfl
theorem mp_wide : (match Try.prog.underlying 84 with | some (.array _ _) | some (.struct _) => true | _ => false) = true := by rw [Try.underlying84]
theorem mp_law : WideMaps.KeyLaw Try.prog 84 := deep_law_laid mp_laid (m := 2) (by omega) mp_row (by kernel_rfl) mp_wide
theorem mp_keyed : Maps.Keyed Try.prog 84 := Maps.Keyed.of_law mp_law
theorem mp_cells : Try.prog.cellsOf 84 = 2 := by kernel_rfl
theorem mp_cellsI : Try.prog.cellsOf 2 = 1 := by kernel_rfl
theorem mp_key (w : World) (x y : Nat) (hx : x < 4611686018427387904) (hy : y < 4611686018427387904) : ∃ kl, keyOf Try.prog 84 (pkey x y) = some kl := by
  have hf : (pkey x y).formed Try.prog 84 = true := by simp [pkey, Value.formed, Try.underlying84, mp_cells]
  have wx : (Lit.int .i64 (x : Int)).wf = true := WalkArith.wf_i64 (by omega)
  have wy : (Lit.int .i64 (y : Int)).wf = true := WalkArith.wf_i64 (by omega)
  have ht := trod_struct2_mk (H := Unit) (enc := fun _ => ()) (P := Try.prog) (w := w) (base := 0) (spare := fun _ => true) (held := true) (n := 1) (cs := [.int .i64 (x : Int), .int .i64 (y : Int)]) Try.underlying84 mp_cells.symm
    (by show DataW.trod _ _ _ _ _ _ 1 2 (([Value.int .i64 (x : Int), .int .i64 (y : Int)].drop 0).take (Try.prog.cellsOf 2)) = _; rw [mp_cellsI]; exact trod_int_mk 0 Try.underlying2 wx)
    (by show DataW.trod _ _ _ _ _ _ 1 2 (([Value.int .i64 (x : Int), .int .i64 (y : Int)].drop 1).take (Try.prog.cellsOf 2)) = _; rw [mp_cellsI]; exact trod_int_mk 0 Try.underlying2 wy)
  exact ⟨_, (keyOf_asKey mp_deep mp_wide hf ⟨_, by simpa [pkey, Value.cells] using ht⟩).1⟩

/-- Block b is a map keyed by pairs, of at most n entries, whose values are V. -/
def MapV (w : World) (b n : Nat) (V : Value → Option Value) : Prop :=
  ∃ D : DataW Value, w.ownsMap Try.prog 84 tokR b n D ∧ ∀ key kl, keyOf Try.prog 84 key = some kl → D.atKey kl .nil = (match V key with | some v => .held v | none => .nil)

theorem MapV.made (w : World) : MapV (w.alloc (.map #[] 0)) w.heap.size 0 (fun _ => none) := ⟨_, World.ownsMap_made w _ _ _, fun _ _ _ => rfl⟩
theorem MapV.lt {w : World} {b n : Nat} {V : Value → Option Value} (h : MapV w b n V) : b < w.heap.size := h.elim fun _ h => h.1.lt
theorem MapV.of_block {w w' : World} {b n : Nat} {V : Value → Option Value} (h : MapV w b n V) (e : w'.heap[b]? = w.heap[b]?) : MapV w' b n V := by
  obtain ⟨D, ⟨es, clock, hb, F, hs, hD⟩, hV⟩ := h
  exact ⟨D, ⟨es, clock, e.trans hb, F, hs, hD⟩, hV⟩
theorem MapV.later {w w' : World} {b n : Nat} {V : Value → Option Value} (h : MapV w b n V) (hb : Below w.heap.size w w') : MapV w' b n V := h.of_block (hb.block b h.lt)
theorem MapV.congr {w : World} {b n : Nat} {V V' : Value → Option Value} (h : MapV w b n V) (e : ∀ k, V k = V' k) : MapV w b n V' := by
  have e2 : V = V' := funext e
  rw [← e2]; exact h

theorem MapV.look {w : World} {b n : Nat} {V : Value → Option Value} {t e : TypeId} (h : MapV w b n V) (ht : Try.prog.underlying t = some (.map 84 e)) {z : Value} (hz : (zeroValue e).run Try.prog w = .ok z w) {key : Value} {kl : Lit} (hkey : keyOf Try.prog 84 key = some kl) :
    (Instr.lookup t (.map (some b)) key false).run Try.prog w = .ok ((V key).getD z) w := by
  obtain ⟨D, ⟨es, clock, hb, F, hs, rfl⟩, hV⟩ := h
  have hk := hV key kl hkey
  rcases Maps.fit_look false mp_keyed ht hz hb F hkey with ⟨hrun, _, hat⟩ | ⟨e0, y, _, _, hrun, hR, hat, _⟩
  · rw [hat] at hk
    cases e : V key with
    | none => simpa using hrun
    | some v => rw [e] at hk; cases hk
  · rw [hat] at hk
    have hy : y = (.held e0.val, []) := by unfold tokR at hR; injection hR with hR; exact hR.symm
    subst hy
    cases e : V key with
    | none => rw [e] at hk; cases hk
    | some v =>
      rw [e] at hk
      injection hk with hk
      rw [← hk]
      simpa using hrun

theorem MapV.entry {w : World} {b n : Nat} {V : Value → Option Value} {t e : TypeId} (h : MapV w b n V) (ht : Try.prog.underlying t = some (.map 84 e)) {z : Value} (hz : ∀ u : World, (zeroValue e).run Try.prog u = .ok z u) (hn : n < maxLen) {key : Value} {kl : Lit} (hkey : keyOf Try.prog 84 key = some kl) :
    ∃ st es1 clock1, (Instr.mapEntry t (.map (some b)) key).run Try.prog w = .ok (.tuple #[(V key).getD z, goInt st]) (setBlock w b (.map es1 clock1)) ∧
      ∀ (w2 : World) (val : Value), w2.heap[b]? = some (.map es1 clock1) → ∃ es' clock', (Instr.entryStore t (.map (some b)) (goInt st) val).run Try.prog w2 = .ok () (setBlock w2 b (.map es' clock')) ∧
        MapV (setBlock w2 b (.map es' clock')) b (n + 1) (fun k => if k = key then some val else V k) := by
  have hlook := h.look ht (hz w) hkey
  obtain ⟨D, how, hV⟩ := h
  have how0 := how
  obtain ⟨es, clock, hb, F, hs, rfl⟩ := how
  obtain ⟨v0, st, es1, clock1, hE, hcase, hS⟩ := WideElems.entry_then_store mp_law ht hz hb F hkey
  have hv0 : v0 = (V key).getD z := by
    have hk := hV key kl hkey
    rcases Maps.fit_look false mp_keyed ht (hz w) hb F hkey with ⟨_, hno, hat⟩ | ⟨e0, y, hm0, hk0, hrun, hR, hat, _⟩
    · rw [hat] at hk
      rcases hcase with ⟨e1, hm1, hk1, _⟩ | ⟨_, e1⟩
      · exact absurd hk1 (hno e1 hm1)
      · cases e : V key with
        | none => rw [e1]; rfl
        | some v => rw [e] at hk; cases hk
    · rcases hcase with ⟨e1, hm1, hk1, hv1⟩ | ⟨hno, _⟩
      · have hnd := F.stamped.2.2
        have he : e0 = e1 := by
          obtain ⟨i, hi, hi2⟩ := List.getElem_of_mem hm0
          obtain ⟨j, hj, hj2⟩ := List.getElem_of_mem hm1
          have hij : i = j := by
            have e : (es.toList.map (·.key))[i]'(by simpa using hi) = (es.toList.map (·.key))[j]'(by simpa using hj) := by
              simp only [List.getElem_map]
              rw [hi2, hj2, hk0, hk1]
            exact (List.getElem_inj hnd).1 e
          subst hij
          rw [← hi2, hj2]
        have h2 := hrun.symm.trans hlook
        simp at h2
        rw [hv1, ← he]
        exact h2
      · exact absurd hk0 (hno e0 hm0)
  refine ⟨st, es1, clock1, by rw [← hv0]; exact hE, fun w2 val hw2 => ?_⟩
  obtain ⟨es', clock', hrun2, hU⟩ := hS w2 val hw2
  refine ⟨es', clock', hrun2, ?_⟩
  obtain ⟨w', hU2, how2, _⟩ := how0.update mp_keyed ht hn hkey (show tokR val = some (.held val, []) from rfl)
  have hw' : w' = setBlock w b (.map es' clock') := by
    have h2 := hU2.symm.trans hU
    simpa using h2
  subst hw'
  refine MapV.of_block (w := setBlock w b (.map es' clock')) ⟨_, how2, fun key' kl' hkey' => ?_⟩ ?_
  · by_cases e : key' = key
    · subst e
      have e2 : kl' = kl := by rw [hkey] at hkey'; injection hkey' with hkey'; exact hkey'.symm
      subst e2
      rw [Maps.atKey_put_same ⟨_, rfl⟩ (mp_keyed.key hkey)]
      simp
    · have hne : kl' ≠ kl := fun e2 => e (mp_keyed.inj hkey' (e2 ▸ hkey))
      rw [Maps.atKey_put_other hne, hV key' kl' hkey']
      simp [e]
  · rw [heap_setBlock_same hw2, heap_setBlock_same hb]
end Go.Proofs.Ytljdfanebjhhmaa
