import Derived.Test.YtiaebilcgmahlaaZd
namespace Go.Proofs.Ytiaebilcgmahlaa
open Go Go.RowKit Go.ChangeShapes Go.WideShapes
open Go.ChangeMaps (setBlock heap_setBlock_same heap_setBlock_other notKey putKey)
open Go.WideElems (Fit rg rd rd_key rg_of rd_val)
open Classical
set_option maxRecDepth 100000
/-- Block b is a map with keys of the type K, of exactly n entries, whose values are V. -/
def MapN (K : TypeId) (w : World) (b n : Nat) (V : Value → Option Value) : Prop :=
  ∃ es clock, w.heap[b]? = some (.map es clock) ∧ Fit Try.prog K tokK es clock ∧ es.size = n ∧ ∀ key kl, keyOf Try.prog K key = some kl → (DataW.map ((es.toList.map (rg Try.prog K tokK)).foldr DataW.insert [])).atKey kl .nil = (match V key with | some v => .held v | none => .nil)
section
variable {K : TypeId} {w w' : World} {b n : Nat} {V V' : Value → Option Value}
theorem MapN.made (K : TypeId) (w : World) : MapN K (w.alloc (.map #[] 0)) w.heap.size 0 (fun _ => none) := by
  obtain ⟨D, ⟨es, clock, hb, F, hs, rfl⟩, hV⟩ := MapK.made K w
  have h2 : es.size = 0 := by omega
  exact ⟨es, clock, hb, F, h2, hV⟩
theorem MapN.lt (h : MapN K w b n V) : b < w.heap.size := by
  obtain ⟨es, clock, hb, _⟩ := h
  exact (Array.getElem?_eq_some_iff.1 hb).1
theorem MapN.of_block (h : MapN K w b n V) (e : w'.heap[b]? = w.heap[b]?) : MapN K w' b n V := by
  obtain ⟨es, clock, hb, r⟩ := h
  exact ⟨es, clock, e.trans hb, r⟩
theorem MapN.later (h : MapN K w b n V) (hb : Below w.heap.size w w') : MapN K w' b n V := h.of_block (hb.block b h.lt)
theorem MapN.raw (h : MapN K w b n V) : ∃ es clock, w.heap[b]? = some (.map es clock) ∧ es.size = n := by
  obtain ⟨es, clock, hb, _, hs, _⟩ := h
  exact ⟨es, clock, hb, hs⟩
theorem MapN.look2 {t e : TypeId} (hkd : Maps.Keyed Try.prog K) (h : MapN K w b n V) (ht : Try.prog.underlying t = some (.map K e)) {z : Value} (hz : (zeroValue e).run Try.prog w = .ok z w) {key : Value} {kl : Lit} (hkey : keyOf Try.prog K key = some kl) :
    (Instr.lookup t (.map (some b)) key true).run Try.prog w = .ok (.tuple #[(V key).getD z, .bool (V key).isSome]) w := by
  obtain ⟨es, clock, hb, F, hs, hV⟩ := h
  have hk := hV key kl hkey
  rcases Maps.fit_look true hkd ht hz hb F hkey with ⟨hrun, _, hat⟩ | ⟨e0, y, _, _, hrun, hR, hat, _⟩
  · rw [hat] at hk
    cases e : V key with
    | none => simpa using hrun
    | some v => rw [e] at hk; cases hk
  · rw [hat] at hk
    have hy : y = (.held e0.val, []) := by unfold tokK at hR; injection hR with hR; exact hR.symm
    subst hy
    cases e : V key with
    | none => rw [e] at hk; cases hk
    | some v =>
      rw [e] at hk
      injection hk with hk
      rw [← hk]
      simpa using hrun
theorem MapN.look1 {t e : TypeId} (hkd : Maps.Keyed Try.prog K) (h : MapN K w b n V) (ht : Try.prog.underlying t = some (.map K e)) {z : Value} (hz : (zeroValue e).run Try.prog w = .ok z w) {key : Value} {kl : Lit} (hkey : keyOf Try.prog K key = some kl) :
    (Instr.lookup t (.map (some b)) key false).run Try.prog w = .ok ((V key).getD z) w := by
  obtain ⟨es, clock, hb, F, hs, hV⟩ := h
  exact MapK.look hkd ⟨_, ⟨es, clock, hb, F, Nat.le_refl _, rfl⟩, hV⟩ ht hz hkey
/-- A key that is not there yet. -/
theorem MapN.add {t e : TypeId} (hkd : Maps.Keyed Try.prog K) (h : MapN K w b n V) (ht : Try.prog.underlying t = some (.map K e)) {z : Value} (hz : (zeroValue e).run Try.prog w = .ok z w) (hn : n < maxLen) {key : Value} {kl : Lit} (hkey : keyOf Try.prog K key = some kl) (hno : V key = none) (val : Value) :
    ∃ w', (Instr.mapUpdate t (.map (some b)) key val).run Try.prog w = .ok () w' ∧ MapN K w' b (n + 1) (fun k => if k = key then some val else V k) ∧ w.grownBy w' (some b) := by
  obtain ⟨es, clock, hb, F, hs, hV⟩ := h
  have hk := hV key kl hkey
  rw [hno] at hk
  have hmiss : ∀ x ∈ es.toList, x.key ≠ key := by
    rcases Maps.fit_look true hkd ht hz hb F hkey with ⟨_, h2, _⟩ | ⟨e0, y, _, _, _, hR, hat, _⟩
    · exact h2
    · exfalso
      rw [hat] at hk
      unfold tokK at hR
      injection hR with hR
      rw [← hR] at hk
      cases hk
  obtain ⟨es', clock', hrun, F', hput, _⟩ := Maps.fit_store (R' := tokK) hkd ht hb F (by omega) (fun _ _ _ _ hz => hz) hkey (show tokK val = some (.held val, []) from rfl)
  have hsz : es'.size = n + 1 := by
    have e1 : es'.size = ((es'.toList.map (rg Try.prog K tokK)).foldr DataW.insert []).length := by rw [Go.length_sorted]; simp
    have hfil : ((es.toList.map (rg Try.prog K tokK)).foldr DataW.insert []).filter (notKey kl) = (es.toList.map (rg Try.prog K tokK)).foldr DataW.insert [] := by
      refine List.filter_eq_self.2 fun p hp => ?_
      obtain ⟨x, hx, rfl⟩ := List.mem_map.1 ((sorted_perm _).mem_iff.1 hp)
      obtain ⟨y, hy⟩ := F.reads x hx
      rw [rg_of hy, Maps.notKey_iff (hkd.key hkey)]
      intro e2
      have h3 := rd_key hy
      rw [e2] at h3
      exact hmiss x hx (hkd.inj h3 hkey)
    rw [e1, hput]
    unfold putKey
    rw [Go.length_insert, hfil, Go.length_sorted]
    simp [hs]
  refine ⟨_, hrun, ⟨es', clock', heap_setBlock_same hb _, F', hsz, fun key' kl' hkey' => ?_⟩, ⟨rfl, rfl, rfl, by simp [setBlock], fun i _ hi => heap_setBlock_other hb _ (fun e => hi (by rw [e]))⟩⟩
  rw [hput]
  by_cases e : key' = key
  · subst e
    have e2 : kl' = kl := by rw [hkey] at hkey'; injection hkey' with hkey'; exact hkey'.symm
    subst e2
    have h9 := Maps.atKey_put_same (D := DataW.map ((es.toList.map (rg Try.prog K tokK)).foldr DataW.insert [])) ⟨_, rfl⟩ (hkd.key hkey) (.held val) .nil
    simp only [↓reduceIte]
    exact h9
  · have hne : kl' ≠ kl := fun e2 => e (hkd.inj hkey' (e2 ▸ hkey))
    have h9 := Maps.atKey_put_other (D := DataW.map ((es.toList.map (rg Try.prog K tokK)).foldr DataW.insert [])) hne (.held val) .nil
    simp only [if_neg e]
    rw [← hV key' kl' hkey']
    exact h9
end
end Go.Proofs.Ytiaebilcgmahlaa
