import Derived.Test.YtljdfanebjhhmaaZg
namespace Go.Proofs.Ytljdfanebjhhmaa
open Go Go.RowKit
theorem al_below {a b : World} {o : Obj} (h : a = b.alloc o) : Below b.heap.size b a := h ▸ (Below.refl _ _).alloc (Nat.le_refl _) _
theorem al_drew_below {a b : World} {o : Obj} (h : a = (b.alloc o).drew) : Below b.heap.size b a := h ▸ ((Below.refl _ _).alloc (Nat.le_refl _) _).drew
theorem blk_al {a b : World} {t : TypeId} {cs : List Value} (h : a = b.alloc (.cells cs.toArray t)) : Blk a b.heap.size t cs := h ▸ Blk.new _ _ _
theorem blk_al_drew {a b : World} {t : TypeId} {cs : List Value} (h : a = (b.alloc (.cells cs.toArray t)).drew) : Blk a b.heap.size t cs := h ▸ (Blk.new _ _ _ : Blk (b.alloc (.cells cs.toArray t)) _ _ _)
end Go.Proofs.Ytljdfanebjhhmaa
