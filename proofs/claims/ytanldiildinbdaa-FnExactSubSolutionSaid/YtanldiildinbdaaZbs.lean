import Derived.Test.YtanldiildinbdaaZaf
import Derived.Test.YtanldiildinbdaaZbp
import Derived.Test.YtanldiildinbdaaZbg
import Derived.Test.YtanldiildinbdaaZq
import Derived.Test.YtanldiildinbdaaZba
import Derived.Test.YtanldiildinbdaaZa
namespace Go.Proofs.Ytanldiildinbdaa
open Go Go.RowKit
set_option maxHeartbeats 1000000

set_option maxRecDepth 100000 in
theorem sbI_any (A : Option Addr) (n c : Nat) (f : List (List Int)) (B : Option Addr) (m d : Nat) (s : List (List Int)) (C : Option Addr) (k e : Nat) (set : List Int) (zf zg : List (List Int)) (code : Int) (kz kw : Nat) (w : World) (hz : ZArg 1048576 w A n f B m s) (hkl : set.length = k) (hkb : k ≤ 1048576) (hs : Rd w C set) (hr : SubRes f s set zf zg code) (hk : ZSz 1048576 zf kz zg kw) :
    Calls Try.prog 47 #[.agg #[.slice A n c, .slice B m d], .slice C k e] w (ZPost 31 2 kz kw zf zg code w) := by
  have hnb := hz.sz.nb
  have HZ := hide hz
  have HFL := hide hz.sz.fl
  have HK := hide hkl
  have HS := hide hs
  rcases hr with ⟨hp, hi, hcl, rfl, rfl, rfl⟩ | ⟨hp, hi, hcl, rfl, rfl, rfl⟩ | ⟨hp, hi, rfl, rfl, rfl⟩ | ⟨hp, rfl, rfl, rfl⟩
  · have HP := hide hp
    have HI : Hid (IncSet n set) := hide (by rw [← hz.sz.fl]; exact hi)
    have HIF := hide hi
    have HCL := hide hcl
    have h12 := hz.small hp
    have hle := hi.le
    have hk12 : k ≤ 12 := by rw [hz.sz.fl] at hle; omega
    have h1k : 1 ≤ k := by have := hi.2; omega
    obtain rfl : k = kz := by rw [← hk.fl, grid_length, hkl]
    obtain rfl : k = kw := by rw [← hk.sl, grid_length, hkl]
    clear hz hk hkl hs hp hi hcl hle
    go_enter Try.func47, Try.ntmps47
    go_wp2_with fail
    refine calls_gen fun w0 hw0 => ?_
    have HF : Hid (FB w w0 (w0.heap.size - 1) [(w.heap.size + 1 + 1, 27, [.slice none 0 0, .slice none 0 0]), (w.heap.size + 1, 31, [.slice C k e]), (w.heap.size, 27, [.slice A n c, .slice B m d])]) := hide (by
      have hb0 : Below w.heap.size w w0 := by rw [hw0]; exact (((Below.refl _ _).alloc (Nat.le_refl _) _).alloc (by simp) _).alloc (by simp; omega) _
      have a1 : Blk w0 w.heap.size 27 [.slice A n c, .slice B m d] := by rw [hw0]; exact ((Blk.new _ _ _).alloc _).alloc _
      have a2 : Blk w0 (w.heap.size + 1) 31 [.slice C k e] := by rw [hw0]; have h := (Blk.new (w.alloc (Obj.cells #[Value.slice A n c, Value.slice B m d] 27)) 31 [.slice C k e]).alloc (Obj.cells #[Value.slice none 0 0, Value.slice none 0 0] 27); simpa using h
      have a3 : Blk w0 (w.heap.size + 1 + 1) 27 [.slice none 0 0, .slice none 0 0] := by rw [hw0]; have h := Blk.new ((w.alloc (Obj.cells #[Value.slice A n c, Value.slice B m d] 27)).alloc (Obj.cells #[Value.slice C k e] 31)) 27 [.slice none 0 0, .slice none 0 0]; simpa using h
      refine FB.of hb0 a1.lt ?_
      simp only [List.forall_mem_cons]
      exact ⟨a3, a2, a1, fun q hq => absurd hq (List.not_mem_nil)⟩)
    clear hw0
    refine (csI_any _ _ _ f _ _ _ s _ _ _ set true 0 _ (HZ.out.later HF.out.below) HK.out hkb (HS.out.later HF.out.below) (.inl ⟨HP.out, HIF.out, (by simp [HCL.out]), rfl⟩)).mono ?_
    rintro e' wd ⟨rfl, hbd⟩
    replace HF := hide (HF.out.later hbd)
    clear hbd
    have k2 := (HF.out.blk (b := w.heap.size + 1) (t := 31) (cs := [.slice C k e]) (by simp)).cell 0 _ rfl
    go_wp2_with fail
    refine (pmo_any 81 _ k (sb1 f set) (sb1 s set) _ (enters_of Try.func81 (by kernel_rfl) rfl) h1k hk12 (sbC_any _ _ _ f _ _ _ s _ _ _ set w.heap.size (w.heap.size + 1) _ (HZ.out.later HF.out.below) HP.out HK.out HI.out HCL.out (HS.out.later HF.out.below) (HF.out.blk (b := w.heap.size) (t := 27) (cs := [.slice A n c, .slice B m d]) (by simp)) (HF.out.blk (b := w.heap.size + 1) (t := 31) (cs := [.slice C k e]) (by simp)))).mono ?_
    rintro e' wd2 ⟨A3, c3, B3, d3, rfl, hbd, ho⟩
    have hRl := (HF.out.blk (b := w.heap.size + 1 + 1) (t := 27) (cs := [.slice none 0 0, .slice none 0 0]) (by simp)).lt
    have hws := HF.out.below.size
    replace HF := hide (HF.out.later hbd)
    have HO := hide ho
    clear hbd ho k2
    have HR := hide (HF.out.blk (b := w.heap.size + 1 + 1) (t := 27) (cs := [.slice none 0 0, .slice none 0 0]) (by simp))
    have r0 := HR.out.cell 0 _ rfl
    have r1 := HR.out.cell 1 _ rfl
    have r2 := HR.out.frozen 0
    have r3 := HR.out.frozen 1
    go_wp2_with fail
    refine bp_gen fun wf hwf => ?_
    obtain ⟨q0, q1, hbf, hof⟩ := zend hwf HR.out (by omega) hRl HF.out.below hws HO.out
    clear hwf r0 r1 r2 r3
    rw [HK.out]
    exact bodyPost_ret (v := .tuple #[.agg #[.slice A3 k c3, .slice B3 k d3], .int .i64 0]) (by simp [results, Try.results47, go_sem, q0, q1]) rfl ⟨_, _, _, _, rfl, hbf, hof⟩
  · have HP := hide hp
    have HI : Hid (IncSet n set) := hide (by rw [← hz.sz.fl]; exact hi)
    have HIF := hide hi
    have HCL := hide hcl
    obtain rfl : kz = 0 := by simpa using hk.fl.symm
    obtain rfl : kw = 0 := by simpa using hk.sl.symm
    clear hk
    clear hz hkl hs hp hi hcl
    go_enter Try.func47, Try.ntmps47
    go_wp2_with fail
    refine calls_gen fun w0 hw0 => ?_
    have HF : Hid (FB w w0 (w0.heap.size - 1) [(w.heap.size + 1 + 1, 27, [.slice none 0 0, .slice none 0 0]), (w.heap.size + 1, 31, [.slice C k e]), (w.heap.size, 27, [.slice A n c, .slice B m d])]) := hide (by
      have hb0 : Below w.heap.size w w0 := by rw [hw0]; exact (((Below.refl _ _).alloc (Nat.le_refl _) _).alloc (by simp) _).alloc (by simp; omega) _
      have a1 : Blk w0 w.heap.size 27 [.slice A n c, .slice B m d] := by rw [hw0]; exact ((Blk.new _ _ _).alloc _).alloc _
      have a2 : Blk w0 (w.heap.size + 1) 31 [.slice C k e] := by rw [hw0]; have h := (Blk.new (w.alloc (Obj.cells #[Value.slice A n c, Value.slice B m d] 27)) 31 [.slice C k e]).alloc (Obj.cells #[Value.slice none 0 0, Value.slice none 0 0] 27); simpa using h
      have a3 : Blk w0 (w.heap.size + 1 + 1) 27 [.slice none 0 0, .slice none 0 0] := by rw [hw0]; have h := Blk.new ((w.alloc (Obj.cells #[Value.slice A n c, Value.slice B m d] 27)).alloc (Obj.cells #[Value.slice C k e] 31)) 27 [.slice none 0 0, .slice none 0 0]; simpa using h
      refine FB.of hb0 a1.lt ?_
      simp only [List.forall_mem_cons]
      exact ⟨a3, a2, a1, fun q hq => absurd hq (List.not_mem_nil)⟩)
    clear hw0
    refine (csI_any _ _ _ f _ _ _ s _ _ _ set false 0 _ (HZ.out.later HF.out.below) HK.out hkb (HS.out.later HF.out.below) (.inl ⟨HP.out, HIF.out, (by simp [HCL.out]), rfl⟩)).mono ?_
    rintro e' wd ⟨rfl, hbd⟩
    replace HF := hide (HF.out.later hbd)
    clear hbd
    have HR := hide (HF.out.blk (b := w.heap.size + 1 + 1) (t := 27) (cs := [.slice none 0 0, .slice none 0 0]) (by simp))
    have r0 := HR.out.cell 0 _ rfl
    have r1 := HR.out.cell 1 _ rfl
    have r2 := HR.out.frozen 0
    have r3 := HR.out.frozen 1
    go_wp2_with fail
    refine bp_gen fun wf hwf => ?_
    obtain ⟨q0, q1, hbf, hof⟩ := zend (ts := 31) (t := 2) (w2 := wd) hwf HR.out (by omega) HR.out.lt HF.out.below HF.out.below.size (ObjZ.empty (Nat.le_refl _))
    clear hwf r0 r1 r2 r3
    exact bodyPost_ret (v := .tuple #[.agg #[.slice none 0 0, .slice none 0 0], .int .i64 5]) (by simp [results, Try.results47, go_sem, q0, q1]) rfl ⟨_, _, _, _, rfl, hbf, hof⟩
  · have HP := hide hp
    have HI := hide hi
    obtain rfl : kz = 0 := by simpa using hk.fl.symm
    obtain rfl : kw = 0 := by simpa using hk.sl.symm
    clear hk
    clear hz hkl hs hp hi
    go_enter Try.func47, Try.ntmps47
    go_wp2_with fail
    refine calls_gen fun w0 hw0 => ?_
    have HF : Hid (FB w w0 (w0.heap.size - 1) [(w.heap.size + 1 + 1, 27, [.slice none 0 0, .slice none 0 0]), (w.heap.size + 1, 31, [.slice C k e]), (w.heap.size, 27, [.slice A n c, .slice B m d])]) := hide (by
      have hb0 : Below w.heap.size w w0 := by rw [hw0]; exact (((Below.refl _ _).alloc (Nat.le_refl _) _).alloc (by simp) _).alloc (by simp; omega) _
      have a1 : Blk w0 w.heap.size 27 [.slice A n c, .slice B m d] := by rw [hw0]; exact ((Blk.new _ _ _).alloc _).alloc _
      have a2 : Blk w0 (w.heap.size + 1) 31 [.slice C k e] := by rw [hw0]; have h := (Blk.new (w.alloc (Obj.cells #[Value.slice A n c, Value.slice B m d] 27)) 31 [.slice C k e]).alloc (Obj.cells #[Value.slice none 0 0, Value.slice none 0 0] 27); simpa using h
      have a3 : Blk w0 (w.heap.size + 1 + 1) 27 [.slice none 0 0, .slice none 0 0] := by rw [hw0]; have h := Blk.new ((w.alloc (Obj.cells #[Value.slice A n c, Value.slice B m d] 27)).alloc (Obj.cells #[Value.slice C k e] 31)) 27 [.slice none 0 0, .slice none 0 0]; simpa using h
      refine FB.of hb0 a1.lt ?_
      simp only [List.forall_mem_cons]
      exact ⟨a3, a2, a1, fun q hq => absurd hq (List.not_mem_nil)⟩)
    clear hw0
    refine (csI_any _ _ _ f _ _ _ s _ _ _ set false 2 _ (HZ.out.later HF.out.below) HK.out hkb (HS.out.later HF.out.below) (.inr (.inl ⟨HP.out, HI.out, rfl, rfl⟩))).mono ?_
    rintro e' wd ⟨rfl, hbd⟩
    replace HF := hide (HF.out.later hbd)
    clear hbd
    have HR := hide (HF.out.blk (b := w.heap.size + 1 + 1) (t := 27) (cs := [.slice none 0 0, .slice none 0 0]) (by simp))
    have r0 := HR.out.cell 0 _ rfl
    have r1 := HR.out.cell 1 _ rfl
    have r2 := HR.out.frozen 0
    have r3 := HR.out.frozen 1
    go_wp2_with fail
    refine bp_gen fun wf hwf => ?_
    obtain ⟨q0, q1, hbf, hof⟩ := zend (ts := 31) (t := 2) (w2 := wd) hwf HR.out (by omega) HR.out.lt HF.out.below HF.out.below.size (ObjZ.empty (Nat.le_refl _))
    clear hwf r0 r1 r2 r3
    exact bodyPost_ret (v := .tuple #[.agg #[.slice none 0 0, .slice none 0 0], .int .i64 2]) (by simp [results, Try.results47, go_sem, q0, q1]) rfl ⟨_, _, _, _, rfl, hbf, hof⟩
  · have HP := hide hp
    obtain rfl : kz = 0 := by simpa using hk.fl.symm
    obtain rfl : kw = 0 := by simpa using hk.sl.symm
    clear hk
    clear hz hkl hs hp
    go_enter Try.func47, Try.ntmps47
    go_wp2_with fail
    refine calls_gen fun w0 hw0 => ?_
    have HF : Hid (FB w w0 (w0.heap.size - 1) [(w.heap.size + 1 + 1, 27, [.slice none 0 0, .slice none 0 0]), (w.heap.size + 1, 31, [.slice C k e]), (w.heap.size, 27, [.slice A n c, .slice B m d])]) := hide (by
      have hb0 : Below w.heap.size w w0 := by rw [hw0]; exact (((Below.refl _ _).alloc (Nat.le_refl _) _).alloc (by simp) _).alloc (by simp; omega) _
      have a1 : Blk w0 w.heap.size 27 [.slice A n c, .slice B m d] := by rw [hw0]; exact ((Blk.new _ _ _).alloc _).alloc _
      have a2 : Blk w0 (w.heap.size + 1) 31 [.slice C k e] := by rw [hw0]; have h := (Blk.new (w.alloc (Obj.cells #[Value.slice A n c, Value.slice B m d] 27)) 31 [.slice C k e]).alloc (Obj.cells #[Value.slice none 0 0, Value.slice none 0 0] 27); simpa using h
      have a3 : Blk w0 (w.heap.size + 1 + 1) 27 [.slice none 0 0, .slice none 0 0] := by rw [hw0]; have h := Blk.new ((w.alloc (Obj.cells #[Value.slice A n c, Value.slice B m d] 27)).alloc (Obj.cells #[Value.slice C k e] 31)) 27 [.slice none 0 0, .slice none 0 0]; simpa using h
      refine FB.of hb0 a1.lt ?_
      simp only [List.forall_mem_cons]
      exact ⟨a3, a2, a1, fun q hq => absurd hq (List.not_mem_nil)⟩)
    clear hw0
    refine (csI_any _ _ _ f _ _ _ s _ _ _ set false 1 _ (HZ.out.later HF.out.below) HK.out hkb (HS.out.later HF.out.below) (.inr (.inr ⟨HP.out, rfl, rfl⟩))).mono ?_
    rintro e' wd ⟨rfl, hbd⟩
    replace HF := hide (HF.out.later hbd)
    clear hbd
    have HR := hide (HF.out.blk (b := w.heap.size + 1 + 1) (t := 27) (cs := [.slice none 0 0, .slice none 0 0]) (by simp))
    have r0 := HR.out.cell 0 _ rfl
    have r1 := HR.out.cell 1 _ rfl
    have r2 := HR.out.frozen 0
    have r3 := HR.out.frozen 1
    go_wp2_with fail
    refine bp_gen fun wf hwf => ?_
    obtain ⟨q0, q1, hbf, hof⟩ := zend (ts := 31) (t := 2) (w2 := wd) hwf HR.out (by omega) HR.out.lt HF.out.below HF.out.below.size (ObjZ.empty (Nat.le_refl _))
    clear hwf r0 r1 r2 r3
    exact bodyPost_ret (v := .tuple #[.agg #[.slice none 0 0, .slice none 0 0], .int .i64 1]) (by simp [results, Try.results47, go_sem, q0, q1]) rfl ⟨_, _, _, _, rfl, hbf, hof⟩
end Go.Proofs.Ytanldiildinbdaa
