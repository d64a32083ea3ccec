import Derived.Test.YtanldiildinbdaaZbu
import Derived.Test.YtanldiildinbdaaZan
import Derived.Test.YtanldiildinbdaaZay
import Derived.Test.YtanldiildinbdaaZbm
import Derived.Test.YtanldiildinbdaaZbt
namespace Go.Proofs.Ytanldiildinbdaa
open Go Go.RowKit
set_option maxHeartbeats 2000000
theorem bkZero (u : World) : (zeroValue 53).run Try.prog u = .ok (.agg #[.int .i64 0, .int .i64 0]) u := by kernel_rfl
set_option maxRecDepth 100000 in
theorem bkC_any (f s : List (List Int)) (n b M c : Nat) (V : Value → Option Value) (w : World) (h12 : n ≤ 12) (hk : Blk w b 64 [.map (some M)]) (hm : MapV w M c V) (hV : ∀ x y, x < n → y < n → V (pkey x y) = some (pkey (bk f s n x y / n) (bk f s n x y % n))) :
    PairFn Try.prog 67 #[.pointer (some ⟨b, 0, none⟩)] n (bk1 f s n) (bk2 f s n) w := by
  intro W x y hx hy hb
  have HK := hide (hk.later hb)
  have HM := hide (hm.later hb)
  have hv := hV x y hx hy
  clear hk hb hm hV
  show Calls Try.prog 67 #[.agg #[.int .i64 x, .int .i64 y], .pointer (some ⟨b, 0, none⟩)] W _
  unfold bk1 bk2
  obtain ⟨u, hu⟩ : ∃ u, bk f s n x y / n = u := ⟨_, rfl⟩
  obtain ⟨v, hvv⟩ : ∃ v, bk f s n x y % n = v := ⟨_, rfl⟩
  rw [hu, hvv] at hv
  rw [hu, hvv]
  clear hu hvv
  obtain ⟨kl, hkey⟩ := mp_key W x y (by omega) (by omega)
  obtain ⟨W2, hW2⟩ : ∃ W2, W2 = (W.alloc (Obj.cells #[Value.int IntKind.i64 x, Value.int IntKind.i64 y] 53)).alloc (Obj.cells #[Value.int IntKind.i64 0, Value.int IntKind.i64 0] 53) := ⟨_, rfl⟩
  have hb2 : Below W.heap.size W W2 := by rw [hW2]; exact ((Below.refl _ _).alloc (Nat.le_refl _) _).alloc (by simp) _
  have hl := (HM.out.later hb2).look (t := 64) Try.underlying64 (bkZero W2) hkey
  rw [hv] at hl
  have hl2 : (Instr.lookup 64 (.map (some M)) (.agg #[.int .i64 (x : Int), .int .i64 (y : Int)]) false).run Try.prog W2 = .ok (.agg #[.int .i64 (u : Int), .int .i64 (v : Int)]) W2 := hl
  rw [hW2] at hl2
  have k0 := fun o1 o2 => ((HK.out.alloc o1).alloc o2).cell 0 _ rfl
  clear hl hv hb2 hW2 hkey
  go_enter Try.func67, Try.ntmps67
  go_wp2_with fail
  clear hl2 k0
  refine bp_gen fun wf hwf => ?_
  have HRF : Blk wf (W.heap.size + 1) 53 [.int .i64 u, .int .i64 v] := by rw [hwf]; have h := Blk.new (W.alloc (Obj.cells #[Value.int IntKind.i64 x, Value.int IntKind.i64 y] 53)) 53 [.int .i64 u, .int .i64 v]; simpa using h
  have HBF : Below W.heap.size W wf := by rw [hwf]; exact ((Below.refl _ _).alloc (Nat.le_refl _) _).alloc (by simp) _
  have q0 := HRF.cell 0 _ rfl
  have q1 := HRF.cell 1 _ rfl
  clear hwf
  exact bodyPost_ret (v := .agg #[.int .i64 u, .int .i64 v]) (by simp [results, Try.results67, go_sem, q0, q1]) rfl ⟨rfl, HBF⟩
end Go.Proofs.Ytanldiildinbdaa
namespace Go.Proofs.Ytanldiildinbdaa
open Go Go.RowKit
set_option maxHeartbeats 2000000
set_option maxRecDepth 100000 in
theorem bkWS_any (A : Option Addr) (n c : Nat) (f : List (List Int)) (B : Option Addr) (m d : Nat) (s : List (List Int)) (zf zg : List (List Int)) (code : Int) (kz kw : Nat) (w : World) (hz : ZArg 1048576 w A n f B m s) (hr : BkRes f s zf zg code) (hk : ZSz 1048576 zf kz zg kw) :
    Calls Try.prog 34 #[.agg #[.slice A n c, .slice B m d]] w (WPost 31 2 kz kw zf zg code w) := by
  have HZ := hide hz
  have HFL := hide hz.sz.fl
  rcases hr with ⟨hp, rfl, rfl, rfl⟩ | ⟨hp, rfl, rfl, rfl⟩
  · have HS := hide hp
    have hc := hp.2.1
    rw [hz.sz.fl] at hc
    have HC := hide hc
    obtain rfl : kz = n := by rw [← hk.fl, grid_length, HFL.out]
    obtain rfl : kw = kz := by rw [← hk.sl, grid_length, HFL.out]
    clear hp hz hk hc
    go_enter Try.func34, Try.ntmps34
    go_wp2_with fail
    refine calls_gen fun w0 hw0 => ?_
    have hb0 : Below w.heap.size w w0 := by rw [hw0]; exact ((Below.refl _ _).alloc (Nat.le_refl _) _).alloc (by simp) _
    have HB0 := hide hb0
    have HK0 : Hid (Blk w0 w.heap.size 27 [.slice A kw c, .slice B m d]) := hide (by rw [hw0]; exact (Blk.new _ _ _).alloc _)
    have HR0 : Hid (Blk w0 (w.heap.size + 1) 27 [.slice none 0 0, .slice none 0 0]) := hide (by rw [hw0]; have h := Blk.new (w.alloc (Obj.cells #[Value.slice A kw c, Value.slice B m d] 27)) 27 [.slice none 0 0, .slice none 0 0]; simpa using h)
    clear hw0 hb0
    refine (isS_any _ _ _ f _ _ _ s true _ (HZ.out.later HB0.out) (by simp [IsRes, HS.out])).mono ?_
    rintro e w1 ⟨rfl, hb1⟩
    have HB1 := hide (HB0.out.trans (hb1.mono HB0.out.size))
    have HK1 := hide (HK0.out.later hb1)
    have HR1 := hide (HR0.out.later hb1)
    have k0 := HK1.out.cell 0 _ rfl
    have k1 := HK1.out.cell 1 _ rfl
    clear hb1
    go_wp2_with fail
    clear k0 k1
    refine (bkS_any _ _ _ f _ _ _ s _ (HZ.out.later HB1.out) HS.out.1 HC.out).mono ?_
    unfold BkPost
    rintro e w3 ⟨A3, c3, B3, d3, rfl, hb3, ho3⟩
    have HB3 := hide (HB1.out.trans (hb3.mono HB1.out.size))
    have HR3 := hide (HR1.out.later hb3)
    have HO3 := hide ho3
    have k2 := HR3.out.cell 0 _ rfl
    have k3 := HR3.out.cell 1 _ rfl
    have k4 := HR3.out.frozen 0
    have k5 := HR3.out.frozen 1
    clear hb3 ho3
    go_wp2_with fail
    refine bp_gen fun wf hwf => ?_
    obtain ⟨q0, q1, hbf, hof⟩ := wend hwf HR3.out (by omega) HR1.out.lt HB3.out HB1.out.size HO3.out
    clear hwf k2 k3 k4 k5
    rw [HFL.out]
    exact bodyPost_ret (v := .tuple #[.agg #[.slice A3 kw c3, .slice B3 kw d3], .int .i64 0]) (by simp [results, Try.results34, go_sem, q0, q1]) rfl ⟨_, _, _, _, rfl, hbf, hof⟩
  · have HP := hide hp
    obtain rfl : kz = 0 := by simpa using hk.fl.symm
    obtain rfl : kw = 0 := by simpa using hk.sl.symm
    clear hp hz hk
    go_enter Try.func34, Try.ntmps34
    go_wp2_with fail
    refine calls_gen fun w0 hw0 => ?_
    have hb0 : Below w.heap.size w w0 := by rw [hw0]; exact ((Below.refl _ _).alloc (Nat.le_refl _) _).alloc (by simp) _
    have HB0 := hide hb0
    have HR0 : Hid (Blk w0 (w.heap.size + 1) 27 [.slice none 0 0, .slice none 0 0]) := hide (by rw [hw0]; have h := Blk.new (w.alloc (Obj.cells #[Value.slice A n c, Value.slice B m d] 27)) 27 [.slice none 0 0, .slice none 0 0]; simpa using h)
    clear hw0 hb0
    refine (isS_any _ _ _ f _ _ _ s false _ (HZ.out.later HB0.out) (by simp [IsRes, HP.out])).mono ?_
    rintro e w1 ⟨rfl, hb1⟩
    have HB1 := hide (HB0.out.trans (hb1.mono HB0.out.size))
    have HR1 := hide (HR0.out.later hb1)
    have k2 := HR1.out.cell 0 _ rfl
    have k3 := HR1.out.cell 1 _ rfl
    have k4 := HR1.out.frozen 0
    have k5 := HR1.out.frozen 1
    clear hb1
    go_wp2_with fail
    refine bp_gen fun wf hwf => ?_
    obtain ⟨q0, q1, hbf, hof⟩ := wend (ts := 31) (t := 2) (w2 := w1) hwf HR1.out (by omega) HR1.out.lt HB1.out HB1.out.size ObjW.empty
    clear hwf k2 k3 k4 k5
    exact bodyPost_ret (v := .tuple #[.agg #[.slice none 0 0, .slice none 0 0], .int .i64 1]) (by simp [results, Try.results34, go_sem, q0, q1]) rfl ⟨_, _, _, _, rfl, hbf, hof⟩
end Go.Proofs.Ytanldiildinbdaa
