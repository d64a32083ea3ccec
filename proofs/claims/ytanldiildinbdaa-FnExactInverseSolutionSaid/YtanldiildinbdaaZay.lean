import Derived.Test.YtanldiildinbdaaZd
namespace Go.Proofs.Ytanldiildinbdaa
open Go Go.RowKit Go.ChangeShapes Go.WideShapes
open Classical
set_option maxRecDepth 100000
theorem MapV.update {w : World} {b n : Nat} {V : Value → Option Value} {t e : TypeId} (h : MapV w b n V) (ht : Try.prog.underlying t = some (.map 53 e)) (hn : n < maxLen) {key : Value} {kl : Lit} (hkey : keyOf Try.prog 53 key = some kl) (val : Value) :
    ∃ w', (Instr.mapUpdate t (.map (some b)) key val).run Try.prog w = .ok () w' ∧ MapV w' b (n + 1) (fun k => if k = key then some val else V k) ∧ w.grownBy w' (some b) := by
  obtain ⟨D, how, hV⟩ := h
  have how0 := how
  obtain ⟨es, clock, hb, F, hs, rfl⟩ := how
  obtain ⟨w', hU, how2, hg⟩ := how0.update mp_keyed ht hn hkey (show tokR val = some (.held val, []) from rfl)
  refine ⟨w', hU, ⟨_, how2, fun key' kl' hkey' => ?_⟩, hg⟩
  by_cases e : key' = key
  · subst e
    have e2 : kl' = kl := by rw [hkey] at hkey'; injection hkey' with hkey'; exact hkey'.symm
    subst e2
    rw [Maps.atKey_put_same ⟨_, rfl⟩ (mp_keyed.key hkey)]
    simp
  · have hne : kl' ≠ kl := fun e2 => e (mp_keyed.inj hkey' (e2 ▸ hkey))
    rw [Maps.atKey_put_other hne, hV key' kl' hkey']
    simp [e]
end Go.Proofs.Ytanldiildinbdaa
