import Derived.Test.YtljdfanebjhhmaaZq
import Derived.Test.YtljdfanebjhhmaaZa
import Derived.Test.YtljdfanebjhhmaaZc
import Derived.Deep.DeepCutAuto
namespace Go.Proofs.Ytljdfanebjhhmaa
open Go Go.RowKit
section
variable {ts t tz : TypeId} {wj wx w1 : World} {A : Option Addr} {f : List (List Int)} {kz c : Nat}
/-- A result that is laid into a new box behind the call. -/
theorem cutK_new (hb : Below wj.heap.size wj wx) (ho : Obj2 ts t w1.heap.size wx.heap.size wx A f) (hlo : wj.heap.size ≤ w1.heap.size) :
    Below wj.heap.size wj (wx.alloc (.cells #[.slice A kz c] tz)) ∧ Obj2 ts t wj.heap.size (wx.alloc (.cells #[.slice A kz c] tz)).heap.size (wx.alloc (.cells #[.slice A kz c] tz)) A f ∧ Blk (wx.alloc (.cells #[.slice A kz c] tz)) wx.heap.size tz [.slice A kz c] ∧ wx.heap.size < (wx.alloc (.cells #[.slice A kz c] tz)).heap.size :=
  ⟨hb.alloc hb.size _, (ho.later ((Below.refl _ _).alloc (Nat.le_refl _) _)).mono hlo (by simp), Blk.new _ _ _, by simp⟩
/-- .. into a box that was made ahead of it. -/
theorem cutK_old {Q : Nat} {u : Value} (hb : Below wj.heap.size wj wx) (ho : Obj2 ts t w1.heap.size wx.heap.size wx A f) (hlo : wj.heap.size ≤ w1.heap.size) (hq : Blk wx Q tz [u]) (hl : wj.heap.size ≤ Q ∧ Q < w1.heap.size) :
    Below wj.heap.size wj (wx.setCell ⟨Q, 0, none⟩ (.slice A kz c)) ∧ Obj2 ts t wj.heap.size (wx.setCell ⟨Q, 0, none⟩ (.slice A kz c)).heap.size (wx.setCell ⟨Q, 0, none⟩ (.slice A kz c)) A f ∧ Blk (wx.setCell ⟨Q, 0, none⟩ (.slice A kz c)) Q tz [.slice A kz c] ∧ Q < (wx.setCell ⟨Q, 0, none⟩ (.slice A kz c)).heap.size :=
  have hk := hq.set 0 (.slice A kz c)
  ⟨hb.setCell (p := ⟨Q, 0, none⟩) hl.1 _, (ho.set (p := ⟨Q, 0, none⟩) (.inl hl.2) _).mono hlo (by simp [World.setCell]), hk, hk.lt⟩
end
end Go.Proofs.Ytljdfanebjhhmaa
