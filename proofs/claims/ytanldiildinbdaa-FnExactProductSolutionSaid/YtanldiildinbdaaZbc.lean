import Derived.Test.YtanldiildinbdaaZq
import Derived.Test.YtanldiildinbdaaZba
import Derived.Test.YtanldiildinbdaaZa
import Derived.Deep.DeepCutAuto
namespace Go.Proofs.Ytanldiildinbdaa
open Go Go.RowKit
section
variable {ts t tz : TypeId} {wj wx w1 : World} {A B : Option Addr} {f s : List (List Int)} {kz kw c d : Nat}
/-- A result that is laid into a new box behind the call. -/
theorem cutW_new (hb : Below wj.heap.size wj wx) (ho : ObjW ts t w1.heap.size wx.heap.size wx A f B s) (hlo : wj.heap.size ≤ w1.heap.size) :
    Below wj.heap.size wj (wx.alloc (.cells #[.slice A kz c, .slice B kw d] tz)) ∧ ObjW ts t wj.heap.size (wx.alloc (.cells #[.slice A kz c, .slice B kw d] tz)).heap.size (wx.alloc (.cells #[.slice A kz c, .slice B kw d] tz)) A f B s ∧ Blk (wx.alloc (.cells #[.slice A kz c, .slice B kw d] tz)) wx.heap.size tz [.slice A kz c, .slice B kw d] ∧ wx.heap.size < (wx.alloc (.cells #[.slice A kz c, .slice B kw d] tz)).heap.size :=
  ⟨hb.alloc hb.size _, (ho.later ((Below.refl _ _).alloc (Nat.le_refl _) _)).mono hlo (by simp), Blk.new _ _ _, by simp⟩
theorem cutZ_new (hb : Below wj.heap.size wj wx) (ho : ObjZ ts t w1.heap.size wx.heap.size wx A f B s) (hlo : wj.heap.size ≤ w1.heap.size) :
    Below wj.heap.size wj (wx.alloc (.cells #[.slice A kz c, .slice B kw d] tz)) ∧ ObjZ ts t wj.heap.size (wx.alloc (.cells #[.slice A kz c, .slice B kw d] tz)).heap.size (wx.alloc (.cells #[.slice A kz c, .slice B kw d] tz)) A f B s ∧ Blk (wx.alloc (.cells #[.slice A kz c, .slice B kw d] tz)) wx.heap.size tz [.slice A kz c, .slice B kw d] ∧ wx.heap.size < (wx.alloc (.cells #[.slice A kz c, .slice B kw d] tz)).heap.size :=
  ⟨hb.alloc hb.size _, (ho.later ((Below.refl _ _).alloc (Nat.le_refl _) _)).mono hlo (by simp), Blk.new _ _ _, by simp⟩
/-- .. into a box that was made ahead of it. -/
theorem cutW_old {Q : Nat} {u v : Value} (hb : Below wj.heap.size wj wx) (ho : ObjW ts t w1.heap.size wx.heap.size wx A f B s) (hlo : wj.heap.size ≤ w1.heap.size) (hq : Blk wx Q tz [u, v]) (hl : wj.heap.size ≤ Q ∧ Q < w1.heap.size) :
    Below wj.heap.size wj ((wx.setCell ⟨Q, 0, none⟩ (.slice A kz c)).setCell ⟨Q, 1, none⟩ (.slice B kw d)) ∧ ObjW ts t wj.heap.size ((wx.setCell ⟨Q, 0, none⟩ (.slice A kz c)).setCell ⟨Q, 1, none⟩ (.slice B kw d)).heap.size ((wx.setCell ⟨Q, 0, none⟩ (.slice A kz c)).setCell ⟨Q, 1, none⟩ (.slice B kw d)) A f B s ∧ Blk ((wx.setCell ⟨Q, 0, none⟩ (.slice A kz c)).setCell ⟨Q, 1, none⟩ (.slice B kw d)) Q tz [.slice A kz c, .slice B kw d] ∧ Q < ((wx.setCell ⟨Q, 0, none⟩ (.slice A kz c)).setCell ⟨Q, 1, none⟩ (.slice B kw d)).heap.size :=
  have hk := (hq.set 0 (.slice A kz c)).set 1 (.slice B kw d)
  ⟨(hb.setCell (p := ⟨Q, 0, none⟩) hl.1 _).setCell (p := ⟨Q, 1, none⟩) hl.1 _, ((ho.set (p := ⟨Q, 0, none⟩) (.inl hl.2) _).set (p := ⟨Q, 1, none⟩) (.inl hl.2) _).mono hlo (by simp [World.setCell]), hk, hk.lt⟩
theorem cutZ_old {Q : Nat} {u v : Value} (hb : Below wj.heap.size wj wx) (ho : ObjZ ts t w1.heap.size wx.heap.size wx A f B s) (hlo : wj.heap.size ≤ w1.heap.size) (hq : Blk wx Q tz [u, v]) (hl : wj.heap.size ≤ Q ∧ Q < w1.heap.size) :
    Below wj.heap.size wj ((wx.setCell ⟨Q, 0, none⟩ (.slice A kz c)).setCell ⟨Q, 1, none⟩ (.slice B kw d)) ∧ ObjZ ts t wj.heap.size ((wx.setCell ⟨Q, 0, none⟩ (.slice A kz c)).setCell ⟨Q, 1, none⟩ (.slice B kw d)).heap.size ((wx.setCell ⟨Q, 0, none⟩ (.slice A kz c)).setCell ⟨Q, 1, none⟩ (.slice B kw d)) A f B s ∧ Blk ((wx.setCell ⟨Q, 0, none⟩ (.slice A kz c)).setCell ⟨Q, 1, none⟩ (.slice B kw d)) Q tz [.slice A kz c, .slice B kw d] ∧ Q < ((wx.setCell ⟨Q, 0, none⟩ (.slice A kz c)).setCell ⟨Q, 1, none⟩ (.slice B kw d)).heap.size :=
  have hk := (hq.set 0 (.slice A kz c)).set 1 (.slice B kw d)
  ⟨(hb.setCell (p := ⟨Q, 0, none⟩) hl.1 _).setCell (p := ⟨Q, 1, none⟩) hl.1 _, ((ho.set (p := ⟨Q, 0, none⟩) (.inl hl.2) _).set (p := ⟨Q, 1, none⟩) (.inl hl.2) _).mono hlo (by simp [World.setCell]), hk, hk.lt⟩
end
end Go.Proofs.Ytanldiildinbdaa
