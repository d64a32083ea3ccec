import Derived.Test.YtljdfanebjhhmaaZz
import Derived.Test.YtljdfanebjhhmaaZk
import Derived.Test.YtljdfanebjhhmaaZa
import Derived.Shelf.Abstract
import Derived.Shelf.Lay
namespace Go.Proofs.Ytljdfanebjhhmaa
open Go Go.RowKit

/-- What is asked of the function value: for each two elements, in each later world, it hands back a number, and leaves what there was. -/
def CellFn (P : Program) (F : FuncId) (lb : Array Value) (n : Nat) (h : Nat → Nat → Int) (w : World) : Prop :=
  ∀ (W : World) (x y : Nat), x < n → y < n → Below w.heap.size w W → Calls P F (#[.int .i64 x, .int .i64 y] ++ lb) W fun e w' => e = .returned (.int .i64 (h x y)) ∧ Below W.heap.size W w'
theorem CellFn.later {P : Program} {F : FuncId} {lb : Array Value} {n : Nat} {h : Nat → Nat → Int} {w w' : World} (hc : CellFn P F lb n h w) (hb : Below w.heap.size w w') : CellFn P F lb n h w' :=
  fun W x y hx hy hw => hc W x y hx hy (hb.trans (hw.mono hb.size))

/-- After k pairs. -/
def rfTo (h : Nat → Nat → Int) (n k : Nat) : Nat → Nat → Int := fun a b => if a * n + b < k then h a b else 0
theorem rfTo_upd (h : Nat → Nat → Int) (n k x y : Nat) (hx : k / n = x) (hy : k % n = y) (_hyn : y < n) : ∀ a b, a < n → b < n → (if a = x ∧ b = y then h x y else rfTo h n k a b) = rfTo h n (k + 1) a b := by
  intro a b _ hb
  have hk : k = x * n + y := by rw [← hx, ← hy]; exact (pair_eta n k).symm
  unfold rfTo
  by_cases e : a = x ∧ b = y
  · obtain ⟨rfl, rfl⟩ := e
    rw [if_pos ⟨rfl, rfl⟩, if_pos (by omega)]
  · rw [if_neg e]
    have hne : a * n + b ≠ k := fun hh => e (by
      have h1 := pair_div n a b hb
      have h2 := pair_mod n a b hb
      rw [hh] at h1 h2
      omega)
    by_cases h2 : a * n + b < k
    · rw [if_pos h2, if_pos (by omega)]
    · rw [if_neg h2, if_neg (by omega)]
theorem TabF.away {ts t : TypeId} {w : World} {g : Nat} {G : Nat → Nat} {n : Nat} {f : Nat → Nat → Int} (h : TabF ts t w g G n f) {p : Addr} (hg : g ≠ p.block) (hG : ∀ i, i < n → G i ≠ p.block) (v : Value) : TabF ts t (w.setCell p v) g G n f := by
  obtain ⟨C, r⟩ := h.top
  exact ⟨⟨C, r.far hg v⟩, fun i hi => (h.row i hi).far (hG i hi) v, h.ne, h.inj⟩
theorem PairsAt.away {w : World} {g n : Nat} (h : PairsAt w g n) {p : Addr} (hp : g ≠ p.block) (v : Value) : PairsAt (w.setCell p v) g n :=
  h.touch (lo := p.block) (hi := p.block + 1) ⟨rfl, rfl, rfl, by simp [World.setCell], fun k _ hne => Below.heap_setCell w p v k (by omega)⟩ (by omega)
end Go.Proofs.Ytljdfanebjhhmaa
