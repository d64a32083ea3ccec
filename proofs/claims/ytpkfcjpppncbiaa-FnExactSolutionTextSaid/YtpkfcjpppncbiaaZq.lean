import Derived.Test.YtpkfcjpppncbiaaZl
import Derived.Test.YtpkfcjpppncbiaaZh
import Derived.Test.YtpkfcjpppncbiaaZf
namespace Go.Proofs.Ytpkfcjpppncbiaa
open Go Go.RowKit

/-- The cells that are read at two elements of both tables of a pair map. -/
theorem ZArg.reads {K : Nat} {w : World} {A : Option Addr} {n : Nat} {f : List (List Int)} {B : Option Addr} {m : Nat} {s : List (List Int)} (hz : ZArg K w A n f B m s) (hp : PMap f s) {x y : Nat} (hx : x < n) (hy : y < n) :
    ∃ b o b2 o2 bx ox cx by' oy cy, A = some ⟨b, o, none⟩ ∧ B = some ⟨b2, o2, none⟩ ∧ w.cell? ⟨b, o + x, none⟩ = some (.slice (some ⟨bx, ox, none⟩) n cx) ∧ w.cell? ⟨b2, o2 + x, none⟩ = some (.slice (some ⟨by', oy, none⟩) n cy) ∧
      w.cell? ⟨bx, ox + y, none⟩ = some (.int .i64 (ap f x y : Nat)) ∧ w.cell? ⟨by', oy + y, none⟩ = some (.int .i64 (ap s x y : Nat)) ∧ b < w.heap.size ∧ b2 < w.heap.size ∧ bx < w.heap.size ∧ by' < w.heap.size := by
  obtain ⟨b, o, rfl, hb, hc⟩ := hp.1.cells hz.fst hz.sz.fl
  have hm : s.length = n := by rw [← hp.2.2]; exact hz.sz.fl
  obtain ⟨b2, o2, rfl, hb2, hc2⟩ := hp.2.1.cells hz.snd hm
  obtain ⟨bx, ox, cx, h1, h2, h3⟩ := hc x hx
  obtain ⟨by', oy, cy, h4, h5, h6⟩ := hc2 x hx
  exact ⟨b, o, b2, o2, bx, ox, cx, by', oy, cy, rfl, rfl, h1, h4, h3 y hy, h6 y hy, hb, hb2, h2, h5⟩
theorem ZArg.same {K : Nat} {w : World} {A : Option Addr} {n : Nat} {f : List (List Int)} {B : Option Addr} {m : Nat} {s : List (List Int)} (hz : ZArg K w A n f B m s) (hp : PMap f s) : m = n := by
  rw [← hz.sz.sl, ← hp.2.2]; exact hz.sz.fl
theorem ZArg.small {K : Nat} {w : World} {A : Option Addr} {n : Nat} {f : List (List Int)} {B : Option Addr} {m : Nat} {s : List (List Int)} (hz : ZArg K w A n f B m s) (hp : PMap f s) : 1 ≤ n ∧ n ≤ 12 := by
  have h1 := hp.1.1
  have h2 := hp.1.2.1
  have h3 := hz.sz.fl
  omega
theorem PMap.lt1 {f s : List (List Int)} (hp : PMap f s) {n x y : Nat} (hn : f.length = n) (hx : x < n) (hy : y < n) : ap f x y < n := hp.1.ap_lt hn hx hy
theorem PMap.lt2 {f s : List (List Int)} (hp : PMap f s) {n x y : Nat} (hn : f.length = n) (hx : x < n) (hy : y < n) : ap s x y < n := hp.2.1.ap_lt (by rw [← hp.2.2]; exact hn) hx hy
end Go.Proofs.Ytpkfcjpppncbiaa
