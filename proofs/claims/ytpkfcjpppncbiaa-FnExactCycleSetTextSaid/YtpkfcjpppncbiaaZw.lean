import Derived.Test.YtpkfcjpppncbiaaZp
import Derived.Test.YtpkfcjpppncbiaaZt
import Derived.Test.YtpkfcjpppncbiaaZf
import Derived.Test.YtpkfcjpppncbiaaZa
namespace Go.Proofs.Ytpkfcjpppncbiaa
open Go Go.RowKit
set_option maxHeartbeats 2000000

set_option maxRecDepth 100000 in
theorem dxI_any (A : Option Addr) (n c : Nat) (f : List (List Int)) (s : ByteArray) (code : Int) (w : World) (hn : f.length = n) (hb : n ≤ 1048576) (hbs : ∀ i, i < f.length → (f.getD i []).length ≤ 1048576) (hr : Rd2 w A f) (hres : TTextRes f s code) :
    Calls Try.prog 14 #[.agg #[.slice A n c]] w fun e w' => e = .returned (.tuple #[.string s, .int .i64 code]) ∧ Below w.heap.size w w' := by
  have HN := hide hn
  have HBS := hide hbs
  have HRD := hide hr
  have HB0 := hide ((Below.refl _ w).alloc (Nat.le_refl _) (Obj.cells #[Value.slice A n c] 35))
  have HK0 := hide (Blk.new w 35 [.slice A n c])
  have HRES := hide hres
  clear hn hbs hr hres
  go_enter Try.func14, Try.ntmps14
  go_wp2_with fail
  refine (ttextWI_any _ _ _ f s code _ HN.out hb HBS.out (HRD.out.later HB0.out) HRES.out).mono ?_
  rintro e w2 ⟨rfl, hb2⟩
  have HB2 := hide (HB0.out.trans (hb2.mono HB0.out.size))
  clear hb2
  go_wp2_with fail
  go_ret2
  exact ⟨rfl, HB2.out⟩

set_option maxRecDepth 100000 in
theorem dxS_any (A : Option Addr) (n c : Nat) (f : List (List Int)) (s : ByteArray) (code : Int) (w : World) (hn : f.length = n) (hb : n ≤ 1048576) (hbs : ∀ i, i < f.length → (f.getD i []).length ≤ 1048576) (hr : Rd2 w A f) (hres : TTextRes f s code) :
    Calls Try.prog 12 #[.agg #[.slice A n c]] w fun e w' => e = .returned (.tuple #[.string s, .int .i64 code]) ∧ Below w.heap.size w w' := by
  have HN := hide hn
  have HBS := hide hbs
  have HRD := hide hr
  have HB0 := hide ((Below.refl _ w).alloc (Nat.le_refl _) (Obj.cells #[Value.slice A n c] 35))
  have HK0 := hide (Blk.new w 35 [.slice A n c])
  have HRES := hide hres
  clear hn hbs hr hres
  go_enter Try.func12, Try.ntmps12
  go_wp2_with fail
  refine (ttextWS_any _ _ _ f s code _ HN.out hb HBS.out (HRD.out.later HB0.out) HRES.out).mono ?_
  rintro e w2 ⟨rfl, hb2⟩
  have HB2 := hide (HB0.out.trans (hb2.mono HB0.out.size))
  clear hb2
  go_wp2_with fail
  go_ret2
  exact ⟨rfl, HB2.out⟩

end Go.Proofs.Ytpkfcjpppncbiaa
