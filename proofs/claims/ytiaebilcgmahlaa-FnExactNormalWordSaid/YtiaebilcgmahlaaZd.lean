import Derived.Test.YtiaebilcgmahlaaProg
import Derived.Test.YtiaebilcgmahlaaZa
import Derived.Maps.Own
import Derived.Maps.Views
import Derived.WideKeyEntry
import Derived.DeepKeys4
import Derived.MapViews
namespace Go.Proofs.Ytiaebilcgmahlaa
open Go Go.RowKit Go.ChangeShapes Go.WideShapes
open Go.ChangeMaps (setBlock heap_setBlock_same heap_setBlock_other)
open Go.WideElems (Fit)
open Classical
set_option maxRecDepth 100000
/-- An element of a map reads as itself. -/
def tokK : Value → Option (DataW Value × List MemPlace) := fun v => some (.held v, [])
/-- Block b is a map with keys of the type K, of at most n entries, whose values are V. -/
def MapK (K : TypeId) (w : World) (b n : Nat) (V : Value → Option Value) : Prop :=
  ∃ D : DataW Value, w.ownsMap Try.prog K tokK b n D ∧ ∀ key kl, keyOf Try.prog K key = some kl → D.atKey kl .nil = (match V key with | some v => .held v | none => .nil)
section
variable {K : TypeId} {w w' : World} {b n : Nat} {V V' : Value → Option Value}
theorem MapK.made (K : TypeId) (w : World) : MapK K (w.alloc (.map #[] 0)) w.heap.size 0 (fun _ => none) := ⟨_, World.ownsMap_made w _ _ _, fun _ _ _ => rfl⟩
theorem MapK.lt (h : MapK K w b n V) : b < w.heap.size := h.elim fun _ h => h.1.lt
theorem MapK.of_block (h : MapK K w b n V) (e : w'.heap[b]? = w.heap[b]?) : MapK K w' b n V := by
  obtain ⟨D, ⟨es, clock, hb, F, hs, hD⟩, hV⟩ := h
  exact ⟨D, ⟨es, clock, e.trans hb, F, hs, hD⟩, hV⟩
theorem MapK.later (h : MapK K w b n V) (hb : Below w.heap.size w w') : MapK K w' b n V := h.of_block (hb.block b h.lt)
theorem MapK.congr (h : MapK K w b n V) (e : ∀ k, V k = V' k) : MapK K w b n V' := by
  have e2 : V = V' := funext e
  rw [← e2]; exact h
theorem MapK.look {t e : TypeId} (hkd : Maps.Keyed Try.prog K) (h : MapK K w b n V) (ht : Try.prog.underlying t = some (.map K e)) {z : Value} (hz : (zeroValue e).run Try.prog w = .ok z w) {key : Value} {kl : Lit} (hkey : keyOf Try.prog K key = some kl) :
    (Instr.lookup t (.map (some b)) key false).run Try.prog w = .ok ((V key).getD z) w := by
  obtain ⟨D, ⟨es, clock, hb, F, hs, rfl⟩, hV⟩ := h
  have hk := hV key kl hkey
  rcases Maps.fit_look false hkd ht hz hb F hkey with ⟨hrun, _, hat⟩ | ⟨e0, y, _, _, hrun, hR, hat, _⟩
  · rw [hat] at hk
    cases e : V key with
    | none => simpa using hrun
    | some v => rw [e] at hk; cases hk
  · rw [hat] at hk
    have hy : y = (.held e0.val, []) := by unfold tokK at hR; injection hR with hR; exact hR.symm
    subst hy
    cases e : V key with
    | none => rw [e] at hk; cases hk
    | some v =>
      rw [e] at hk
      injection hk with hk
      rw [← hk]
      simpa using hrun
theorem MapK.update {t e : TypeId} (hkd : Maps.Keyed Try.prog K) (h : MapK K w b n V) (ht : Try.prog.underlying t = some (.map K e)) (hn : n < maxLen) {key : Value} {kl : Lit} (hkey : keyOf Try.prog K key = some kl) (val : Value) :
    ∃ w', (Instr.mapUpdate t (.map (some b)) key val).run Try.prog w = .ok () w' ∧ MapK K w' b (n + 1) (fun k => if k = key then some val else V k) ∧ w.grownBy w' (some b) := by
  obtain ⟨D, how, hV⟩ := h
  have how0 := how
  obtain ⟨es, clock, hb, F, hs, rfl⟩ := how
  obtain ⟨w', hU, how2, hg⟩ := how0.update hkd ht hn hkey (show tokK val = some (.held val, []) from rfl)
  refine ⟨w', hU, ⟨_, how2, fun key' kl' hkey' => ?_⟩, hg⟩
  by_cases e : key' = key
  · subst e
    have e2 : kl' = kl := by rw [hkey] at hkey'; injection hkey' with hkey'; exact hkey'.symm
    subst e2
    rw [Maps.atKey_put_same ⟨_, rfl⟩ (hkd.key hkey)]
    simp
  · have hne : kl' ≠ kl := fun e2 => e (hkd.inj hkey' (e2 ▸ hkey))
    rw [Maps.atKey_put_other hne, hV key' kl' hkey']
    simp [e]
end
end Go.Proofs.Ytiaebilcgmahlaa
