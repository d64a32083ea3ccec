import Derived.Test.YtljdfanebjhhmaaZb
import Derived.Test.YtljdfanebjhhmaaZc
namespace Go.Proofs.Ytljdfanebjhhmaa
open Go Go.RowKit

theorem copyR (A : Option Addr) (n c : Nat) (xs : List Int) (w : World) (hn : xs.length = n) (hb : n ≤ 1048576) (hr : Rd w A xs) :
    Calls Try.prog 20 #[.slice A n c] w fun e w' => ∃ A', e = .returned (.slice A' n n) ∧ Below w.heap.size w w' ∧ Obj1 2 w.heap.size w'.heap.size w' A' xs :=
  (toInt64S_any A n c xs w hn hb hr).mono fun _ _ ⟨he, hb, hr, hs⟩ => ⟨_, he, hb, .inr ⟨_, rfl, Nat.le_refl _, by omega, hr.own⟩⟩
end Go.Proofs.Ytljdfanebjhhmaa
