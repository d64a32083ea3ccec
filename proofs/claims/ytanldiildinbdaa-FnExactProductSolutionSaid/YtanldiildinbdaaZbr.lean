import Derived.Test.YtanldiildinbdaaZy
import Derived.Test.YtanldiildinbdaaZu
import Derived.Test.YtanldiildinbdaaZbo
import Derived.Test.YtanldiildinbdaaZq
namespace Go.Proofs.Ytanldiildinbdaa
open Go Go.RowKit
set_option maxHeartbeats 1000000

set_option maxRecDepth 100000 in
theorem prI_any (A : Option Addr) (n c : Nat) (f : List (List Int)) (B : Option Addr) (m d : Nat) (s : List (List Int)) (C : Option Addr) (q c2 : Nat) (f2 : List (List Int)) (D : Option Addr) (q2 d2 : Nat) (s2 : List (List Int)) (zf zg : List (List Int)) (code : Int) (kz kw : Nat) (w : World) (hz : ZArg 1048576 w A n f B m s) (hz2 : ZArg 1048576 w C q f2 D q2 s2) (hr : ProdRes f s f2 s2 zf zg code) (hk : ZSz 1048576 zf kz zg kw) :
    Calls Try.prog 40 #[.agg #[.slice A n c, .slice B m d], .agg #[.slice C q c2, .slice D q2 d2]] w (ZPost 31 2 kz kw zf zg code w) := by
  have hnb := hz.sz.nb
  have hnb2 := hz2.sz.nb
  have HZ := hide hz
  have HZ2 := hide hz2
  have HFL := hide hz.sz.fl
  have HFL2 := hide hz2.sz.fl
  have hpp : (PMap f s ∧ PMap f2 s2) ∨ (PMap f s ∧ ¬ PMap f2 s2) ∨ ¬ PMap f s := by
    by_cases h1 : PMap f s
    · by_cases h2 : PMap f2 s2
      · exact .inl ⟨h1, h2⟩
      · exact .inr (.inl ⟨h1, h2⟩)
    · exact .inr (.inr h1)
  rcases hpp with ⟨hp1, hp2⟩ | ⟨hp1, hp2⟩ | hp1
  · rcases hr with ⟨_, hlim, rfl, rfl, rfl⟩ | ⟨_, hlim, rfl, rfl, rfl⟩ | ⟨h, _⟩
    · have HP := hide hp1
      have HP2 := hide hp2
      have h12 := hz.small hp1
      have h12b := hz2.small hp2
      obtain ⟨sz, hsz⟩ : ∃ a, n * q = a := ⟨_, rfl⟩
      have hsq : sz ≤ 144 := by rw [← hsz]; exact Nat.le_trans (Nat.mul_le_mul h12.2 h12b.2) (Nat.le_refl _)
      have hsi : (n : Int) * (q : Int) = (sz : Int) := by rw [← hsz]; simp
      have hwk : IntKind.i64.wrap (sz : Int) = (sz : Int) := IntWalk.i64_in _ (by omega)
      have HSZ := hide hsz
      have hle : sz ≤ 12 := by rw [← hsz, ← hz.sz.fl, ← hz2.sz.fl]; exact hlim
      have h1s : 1 ≤ sz := by rw [← hsz]; exact Nat.mul_pos h12.1 h12b.1
      have hng : ¬ (12 : Int) < (sz : Int) := by omega
      obtain rfl : kz = sz := by rw [← hk.fl, grid_length, HFL.out, HFL2.out, hsz]
      obtain rfl : kw = kz := by rw [← hk.sl, grid_length, HFL.out, HFL2.out, hsz]
      clear hk hsz hlim hp1 hp2
      clear hz hz2
      go_enter Try.func40, Try.ntmps40
      go_wp2_with fail
      refine calls_gen fun w0 hw0 => ?_
      have HF : Hid (FB w w0 (w0.heap.size - 1) [(w.heap.size + 1 + 1, 27, [.slice none 0 0, .slice none 0 0]), (w.heap.size + 1, 27, [.slice C q c2, .slice D q2 d2]), (w.heap.size, 27, [.slice A n c, .slice B m d])]) := hide (by
        have hb0 : Below w.heap.size w w0 := by rw [hw0]; exact (((Below.refl _ _).alloc (Nat.le_refl _) _).alloc (by simp) _).alloc (by simp; omega) _
        have a1 : Blk w0 w.heap.size 27 [.slice A n c, .slice B m d] := by rw [hw0]; exact ((Blk.new _ _ _).alloc _).alloc _
        have a2 : Blk w0 (w.heap.size + 1) 27 [.slice C q c2, .slice D q2 d2] := by rw [hw0]; have h := (Blk.new (w.alloc (Obj.cells #[Value.slice A n c, Value.slice B m d] 27)) 27 [.slice C q c2, .slice D q2 d2]).alloc (Obj.cells #[Value.slice none 0 0, Value.slice none 0 0] 27); simpa using h
        have a3 : Blk w0 (w.heap.size + 1 + 1) 27 [.slice none 0 0, .slice none 0 0] := by rw [hw0]; have h := Blk.new ((w.alloc (Obj.cells #[Value.slice A n c, Value.slice B m d] 27)).alloc (Obj.cells #[Value.slice C q c2, Value.slice D q2 d2] 27)) 27 [.slice none 0 0, .slice none 0 0]; simpa using h
        refine FB.of hb0 a1.lt ?_
        simp only [List.forall_mem_cons]
        exact ⟨a3, a2, a1, fun q hq => absurd hq (List.not_mem_nil)⟩)
      clear hw0
      refine (mapI_any _ _ _ f _ _ _ s true _ (HZ.out.later HF.out.below) (by simp [HP.out])).mono ?_
      rintro e wd ⟨rfl, hbd⟩
      replace HF := hide (HF.out.later hbd)
      clear hbd
      have k0 := (HF.out.blk (b := w.heap.size) (t := 27) (cs := [.slice A n c, .slice B m d]) (by simp)).cell 0 _ rfl
      have k1 := (HF.out.blk (b := w.heap.size) (t := 27) (cs := [.slice A n c, .slice B m d]) (by simp)).cell 1 _ rfl
      have k2 := (HF.out.blk (b := w.heap.size + 1) (t := 27) (cs := [.slice C q c2, .slice D q2 d2]) (by simp)).cell 0 _ rfl
      have k3 := (HF.out.blk (b := w.heap.size + 1) (t := 27) (cs := [.slice C q c2, .slice D q2 d2]) (by simp)).cell 1 _ rfl
      go_wp2_with fail
      clear k0 k1 k2 k3
      refine (mapI_any _ _ _ f2 _ _ _ s2 true _ (HZ2.out.later HF.out.below) (by simp [HP2.out])).mono ?_
      rintro e wd ⟨rfl, hbd⟩
      replace HF := hide (HF.out.later hbd)
      clear hbd
      have k0 := (HF.out.blk (b := w.heap.size) (t := 27) (cs := [.slice A n c, .slice B m d]) (by simp)).cell 0 _ rfl
      have k1 := (HF.out.blk (b := w.heap.size) (t := 27) (cs := [.slice A n c, .slice B m d]) (by simp)).cell 1 _ rfl
      have k2 := (HF.out.blk (b := w.heap.size + 1) (t := 27) (cs := [.slice C q c2, .slice D q2 d2]) (by simp)).cell 0 _ rfl
      have k3 := (HF.out.blk (b := w.heap.size + 1) (t := 27) (cs := [.slice C q c2, .slice D q2 d2]) (by simp)).cell 1 _ rfl
      go_wp2_with fail
      clear k0 k1 k2 k3
      refine (size_any _ _ _ _ _ _ _ hnb2).mono ?_
      rintro e wd ⟨rfl, hbd⟩
      replace HF := hide (HF.out.later hbd)
      clear hbd
      have k0 := (HF.out.blk (b := w.heap.size) (t := 27) (cs := [.slice A n c, .slice B m d]) (by simp)).cell 0 _ rfl
      have k1 := (HF.out.blk (b := w.heap.size) (t := 27) (cs := [.slice A n c, .slice B m d]) (by simp)).cell 1 _ rfl
      have k2 := (HF.out.blk (b := w.heap.size + 1) (t := 27) (cs := [.slice C q c2, .slice D q2 d2]) (by simp)).cell 0 _ rfl
      have k3 := (HF.out.blk (b := w.heap.size + 1) (t := 27) (cs := [.slice C q c2, .slice D q2 d2]) (by simp)).cell 1 _ rfl
      go_wp2_with fail
      refine wp_gen fun w5 hw5 => ?_
      obtain ⟨Lm, hLm⟩ : ∃ L, wd.heap.size = L := ⟨_, rfl⟩
      have hnew := HF.out.new 2 [.int .i64 q]
      have HF5 : Hid (FB w w5 Lm ((Lm, 2, [.int .i64 q]) :: [(w.heap.size + 1 + 1, 27, [.slice none 0 0, .slice none 0 0]), (w.heap.size + 1, 27, [.slice C q c2, .slice D q2 d2]), (w.heap.size, 27, [.slice A n c, .slice B m d])])) := hide (by rw [hw5, ← hLm]; exact hnew)
      rw [hLm]
      have HLM : Hid (w.heap.size + 1 + 1 < Lm) := hide (by rw [← hLm]; have h1 := HF.out.le (b := w.heap.size + 1 + 1) (t := 27) (cs := [.slice none 0 0, .slice none 0 0]) (by simp); have h2 := HF.out.sz; omega)
      clear hw5 hLm hnew k0 k1 k2 k3 HF
      have HF := HF5
      clear HF5
      have k0 := (HF.out.blk (b := w.heap.size) (t := 27) (cs := [.slice A n c, .slice B m d]) (by simp)).cell 0 _ rfl
      have k1 := (HF.out.blk (b := w.heap.size) (t := 27) (cs := [.slice A n c, .slice B m d]) (by simp)).cell 1 _ rfl
      have k2 := (HF.out.blk (b := w.heap.size + 1) (t := 27) (cs := [.slice C q c2, .slice D q2 d2]) (by simp)).cell 0 _ rfl
      have k3 := (HF.out.blk (b := w.heap.size + 1) (t := 27) (cs := [.slice C q c2, .slice D q2 d2]) (by simp)).cell 1 _ rfl
      have k4 := (HF.out.blk (b := Lm) (t := 2) (cs := [.int .i64 q]) (by simp)).cell 0 _ rfl
      go_region_held3 (fun w' => w'.cell? ⟨w.heap.size, 0, none⟩ = some (.slice A n c) ∧ w'.cell? ⟨w.heap.size, 1, none⟩ = some (.slice B m d) ∧ w'.cell? ⟨Lm, 0, none⟩ = some (.int .i64 q)) (first | exact ⟨k0, k1, k4⟩ | go_keep) (first | (go_at_call 63; go_must (refine calls_gen fun wc hwc => ?_; (first | have hbx := drew_below hwc | have hbx := eq_below hwc); replace HF := hide (HF.out.later hbx); clear hwc hbx; refine (size_any _ _ _ _ _ _ _ hnb).mono ?_; rintro e wd ⟨rfl, hbd⟩; replace HF := hide (HF.out.later hbd); clear hbd; have k0 := (HF.out.blk (b := w.heap.size) (t := 27) (cs := [.slice A n c, .slice B m d]) (by simp)).cell 0 _ rfl; have k1 := (HF.out.blk (b := w.heap.size) (t := 27) (cs := [.slice A n c, .slice B m d]) (by simp)).cell 1 _ rfl; have k2 := (HF.out.blk (b := w.heap.size + 1) (t := 27) (cs := [.slice C q c2, .slice D q2 d2]) (by simp)).cell 0 _ rfl; have k3 := (HF.out.blk (b := w.heap.size + 1) (t := 27) (cs := [.slice C q c2, .slice D q2 d2]) (by simp)).cell 1 _ rfl; have k4 := (HF.out.blk (b := Lm) (t := 2) (cs := [.int .i64 q]) (by simp)).cell 0 _ rfl)))
      have k0 := (HF.out.blk (b := w.heap.size) (t := 27) (cs := [.slice A n c, .slice B m d]) (by simp)).cell 0 _ rfl
      have k1 := (HF.out.blk (b := w.heap.size) (t := 27) (cs := [.slice A n c, .slice B m d]) (by simp)).cell 1 _ rfl
      have k2 := (HF.out.blk (b := w.heap.size + 1) (t := 27) (cs := [.slice C q c2, .slice D q2 d2]) (by simp)).cell 0 _ rfl
      have k3 := (HF.out.blk (b := w.heap.size + 1) (t := 27) (cs := [.slice C q c2, .slice D q2 d2]) (by simp)).cell 1 _ rfl
      have k4 := (HF.out.blk (b := Lm) (t := 2) (cs := [.int .i64 q]) (by simp)).cell 0 _ rfl
      go_wp2_with fail
      have gr1 : w.heap.size + 1 + 1 ≠ w.heap.size := by omega
      have gr2 : w.heap.size + 1 + 1 ≠ Lm := by have h2 := HLM.out; omega
      have gr3 := gr1.symm
      have gr4 := gr2.symm
      go_region_held3 (fun w' => w'.cell? ⟨w.heap.size, 0, none⟩ = some (.slice A n c) ∧ w'.cell? ⟨w.heap.size, 1, none⟩ = some (.slice B m d) ∧ w'.cell? ⟨Lm, 0, none⟩ = some (.int .i64 q)) (first | exact ⟨k0, k1, k4⟩ | go_keep) (first | (go_at_call 63; go_must (refine calls_gen fun wc hwc => ?_; (first | have hbx := drew_below hwc | have hbx := eq_below hwc); replace HF := hide (HF.out.later hbx); clear hwc hbx; refine (size_any _ _ _ _ _ _ _ hnb).mono ?_; rintro e wd ⟨rfl, hbd⟩; replace HF := hide (HF.out.later hbd); clear hbd; have k0 := (HF.out.blk (b := w.heap.size) (t := 27) (cs := [.slice A n c, .slice B m d]) (by simp)).cell 0 _ rfl; have k1 := (HF.out.blk (b := w.heap.size) (t := 27) (cs := [.slice A n c, .slice B m d]) (by simp)).cell 1 _ rfl; have k2 := (HF.out.blk (b := w.heap.size + 1) (t := 27) (cs := [.slice C q c2, .slice D q2 d2]) (by simp)).cell 0 _ rfl; have k3 := (HF.out.blk (b := w.heap.size + 1) (t := 27) (cs := [.slice C q c2, .slice D q2 d2]) (by simp)).cell 1 _ rfl; have k4 := (HF.out.blk (b := Lm) (t := 2) (cs := [.int .i64 q]) (by simp)).cell 0 _ rfl)) | (go_at_call 66; go_must (refine calls_gen fun wc hwc => ?_; (first | have hbx := drew_below hwc | have hbx := eq_below hwc); replace HF := hide (HF.out.later hbx); clear hwc hbx; refine (pmo_any 73 _ kw (pr1 f f2 q) (pr1 s s2 q) _ (enters_of Try.func73 (by kernel_rfl) rfl) h1s (by omega) (by have h := prC_any _ _ _ f _ _ _ s _ _ _ f2 _ _ _ s2 w.heap.size Lm (w.heap.size + 1) _ (HZ.out.later HF.out.below) HP.out (HZ2.out.later HF.out.below) HP2.out (HF.out.blk (b := w.heap.size) (t := 27) (cs := [.slice A n c, .slice B m d]) (by simp)) (HF.out.blk (b := Lm) (t := 2) (cs := [.int .i64 q]) (by simp)) (HF.out.blk (b := w.heap.size + 1) (t := 27) (cs := [.slice C q c2, .slice D q2 d2]) (by simp)) (by rw [HSZ.out]; exact hle); rw [HSZ.out] at h; exact h)).mono ?_; rintro e wd ⟨A3, c3, B3, d3, rfl, hbd, ho⟩; have HO : Hid (∃ w2 : World, w.heap.size + 1 + 1 < w2.heap.size ∧ w.heap.size ≤ w2.heap.size ∧ ObjZ 31 2 w2.heap.size wd.heap.size wd A3 (grid kw (pr1 f f2 q)) B3 (grid kw (pr1 s s2 q))) := hide ⟨wc, (HF.out.blk (b := w.heap.size + 1 + 1) (t := 27) (cs := [.slice none 0 0, .slice none 0 0]) (by simp)).lt, HF.out.below.size, ho⟩; replace HF := hide (HF.out.later hbd); clear hbd ho; have k0 := (HF.out.blk (b := w.heap.size) (t := 27) (cs := [.slice A n c, .slice B m d]) (by simp)).cell 0 _ rfl; have k1 := (HF.out.blk (b := w.heap.size) (t := 27) (cs := [.slice A n c, .slice B m d]) (by simp)).cell 1 _ rfl; have k2 := (HF.out.blk (b := w.heap.size + 1) (t := 27) (cs := [.slice C q c2, .slice D q2 d2]) (by simp)).cell 0 _ rfl; have k3 := (HF.out.blk (b := w.heap.size + 1) (t := 27) (cs := [.slice C q c2, .slice D q2 d2]) (by simp)).cell 1 _ rfl; have k4 := (HF.out.blk (b := Lm) (t := 2) (cs := [.int .i64 q]) (by simp)).cell 0 _ rfl; have r0 := (HF.out.blk (b := w.heap.size + 1 + 1) (t := 27) (cs := [.slice none 0 0, .slice none 0 0]) (by simp)).cell 0 _ rfl; have r1 := (HF.out.blk (b := w.heap.size + 1 + 1) (t := 27) (cs := [.slice none 0 0, .slice none 0 0]) (by simp)).cell 1 _ rfl; have r2 := (HF.out.blk (b := w.heap.size + 1 + 1) (t := 27) (cs := [.slice none 0 0, .slice none 0 0]) (by simp)).frozen 0; have r3 := (HF.out.blk (b := w.heap.size + 1 + 1) (t := 27) (cs := [.slice none 0 0, .slice none 0 0]) (by simp)).frozen 1)))
      all_goals
        clear k0 k1 k2 k3 k4 r0 r1 r2 r3
        go_wp2_with fail
        refine bp_gen fun wf hwf => ?_
        obtain ⟨w2, hw2, hw2', ho⟩ := HO.out
        obtain ⟨q0, q1, hbf, hof⟩ := zend hwf (HF.out.blk (b := w.heap.size + 1 + 1) (t := 27) (cs := [.slice none 0 0, .slice none 0 0]) (by simp)) (by omega) hw2 HF.out.below hw2' ho
        clear hwf
        rw [HFL.out, HFL2.out, HSZ.out]
        exact bodyPost_ret (v := .tuple #[.agg #[.slice A3 kw c3, .slice B3 kw d3], .int .i64 0]) (by simp [results, Try.results40, go_sem, q0, q1]) rfl ⟨_, _, _, _, rfl, hbf, hof⟩
    · have HP := hide hp1
      have HP2 := hide hp2
      have h12 := hz.small hp1
      have h12b := hz2.small hp2
      obtain ⟨sz, hsz⟩ : ∃ a, n * q = a := ⟨_, rfl⟩
      have hsq : sz ≤ 144 := by rw [← hsz]; exact Nat.le_trans (Nat.mul_le_mul h12.2 h12b.2) (Nat.le_refl _)
      have hsi : (n : Int) * (q : Int) = (sz : Int) := by rw [← hsz]; simp
      have hwk : IntKind.i64.wrap (sz : Int) = (sz : Int) := IntWalk.i64_in _ (by omega)
      have HSZ := hide hsz
      have hgt : (12 : Int) < (sz : Int) := by rw [← hz.sz.fl, ← hz2.sz.fl] at hsz; omega
      obtain rfl : kz = 0 := by simpa using hk.fl.symm
      obtain rfl : kw = 0 := by simpa using hk.sl.symm
      clear hk
      clear hsz hlim hp1 hp2
      clear hz hz2
      go_enter Try.func40, Try.ntmps40
      go_wp2_with fail
      refine calls_gen fun w0 hw0 => ?_
      have HF : Hid (FB w w0 (w0.heap.size - 1) [(w.heap.size + 1 + 1, 27, [.slice none 0 0, .slice none 0 0]), (w.heap.size + 1, 27, [.slice C q c2, .slice D q2 d2]), (w.heap.size, 27, [.slice A n c, .slice B m d])]) := hide (by
        have hb0 : Below w.heap.size w w0 := by rw [hw0]; exact (((Below.refl _ _).alloc (Nat.le_refl _) _).alloc (by simp) _).alloc (by simp; omega) _
        have a1 : Blk w0 w.heap.size 27 [.slice A n c, .slice B m d] := by rw [hw0]; exact ((Blk.new _ _ _).alloc _).alloc _
        have a2 : Blk w0 (w.heap.size + 1) 27 [.slice C q c2, .slice D q2 d2] := by rw [hw0]; have h := (Blk.new (w.alloc (Obj.cells #[Value.slice A n c, Value.slice B m d] 27)) 27 [.slice C q c2, .slice D q2 d2]).alloc (Obj.cells #[Value.slice none 0 0, Value.slice none 0 0] 27); simpa using h
        have a3 : Blk w0 (w.heap.size + 1 + 1) 27 [.slice none 0 0, .slice none 0 0] := by rw [hw0]; have h := Blk.new ((w.alloc (Obj.cells #[Value.slice A n c, Value.slice B m d] 27)).alloc (Obj.cells #[Value.slice C q c2, Value.slice D q2 d2] 27)) 27 [.slice none 0 0, .slice none 0 0]; simpa using h
        refine FB.of hb0 a1.lt ?_
        simp only [List.forall_mem_cons]
        exact ⟨a3, a2, a1, fun q hq => absurd hq (List.not_mem_nil)⟩)
      clear hw0
      refine (mapI_any _ _ _ f _ _ _ s true _ (HZ.out.later HF.out.below) (by simp [HP.out])).mono ?_
      rintro e wd ⟨rfl, hbd⟩
      replace HF := hide (HF.out.later hbd)
      clear hbd
      have k0 := (HF.out.blk (b := w.heap.size) (t := 27) (cs := [.slice A n c, .slice B m d]) (by simp)).cell 0 _ rfl
      have k1 := (HF.out.blk (b := w.heap.size) (t := 27) (cs := [.slice A n c, .slice B m d]) (by simp)).cell 1 _ rfl
      have k2 := (HF.out.blk (b := w.heap.size + 1) (t := 27) (cs := [.slice C q c2, .slice D q2 d2]) (by simp)).cell 0 _ rfl
      have k3 := (HF.out.blk (b := w.heap.size + 1) (t := 27) (cs := [.slice C q c2, .slice D q2 d2]) (by simp)).cell 1 _ rfl
      go_wp2_with fail
      clear k0 k1 k2 k3
      refine (mapI_any _ _ _ f2 _ _ _ s2 true _ (HZ2.out.later HF.out.below) (by simp [HP2.out])).mono ?_
      rintro e wd ⟨rfl, hbd⟩
      replace HF := hide (HF.out.later hbd)
      clear hbd
      have k0 := (HF.out.blk (b := w.heap.size) (t := 27) (cs := [.slice A n c, .slice B m d]) (by simp)).cell 0 _ rfl
      have k1 := (HF.out.blk (b := w.heap.size) (t := 27) (cs := [.slice A n c, .slice B m d]) (by simp)).cell 1 _ rfl
      have k2 := (HF.out.blk (b := w.heap.size + 1) (t := 27) (cs := [.slice C q c2, .slice D q2 d2]) (by simp)).cell 0 _ rfl
      have k3 := (HF.out.blk (b := w.heap.size + 1) (t := 27) (cs := [.slice C q c2, .slice D q2 d2]) (by simp)).cell 1 _ rfl
      go_wp2_with fail
      clear k0 k1 k2 k3
      refine (size_any _ _ _ _ _ _ _ hnb2).mono ?_
      rintro e wd ⟨rfl, hbd⟩
      replace HF := hide (HF.out.later hbd)
      clear hbd
      have k0 := (HF.out.blk (b := w.heap.size) (t := 27) (cs := [.slice A n c, .slice B m d]) (by simp)).cell 0 _ rfl
      have k1 := (HF.out.blk (b := w.heap.size) (t := 27) (cs := [.slice A n c, .slice B m d]) (by simp)).cell 1 _ rfl
      have k2 := (HF.out.blk (b := w.heap.size + 1) (t := 27) (cs := [.slice C q c2, .slice D q2 d2]) (by simp)).cell 0 _ rfl
      have k3 := (HF.out.blk (b := w.heap.size + 1) (t := 27) (cs := [.slice C q c2, .slice D q2 d2]) (by simp)).cell 1 _ rfl
      go_wp2_with fail
      refine wp_gen fun w5 hw5 => ?_
      obtain ⟨Lm, hLm⟩ : ∃ L, wd.heap.size = L := ⟨_, rfl⟩
      have hnew := HF.out.new 2 [.int .i64 q]
      have HF5 : Hid (FB w w5 Lm ((Lm, 2, [.int .i64 q]) :: [(w.heap.size + 1 + 1, 27, [.slice none 0 0, .slice none 0 0]), (w.heap.size + 1, 27, [.slice C q c2, .slice D q2 d2]), (w.heap.size, 27, [.slice A n c, .slice B m d])])) := hide (by rw [hw5, ← hLm]; exact hnew)
      rw [hLm]
      have HLM : Hid (w.heap.size + 1 + 1 < Lm) := hide (by rw [← hLm]; have h1 := HF.out.le (b := w.heap.size + 1 + 1) (t := 27) (cs := [.slice none 0 0, .slice none 0 0]) (by simp); have h2 := HF.out.sz; omega)
      clear hw5 hLm hnew k0 k1 k2 k3 HF
      have HF := HF5
      clear HF5
      have k0 := (HF.out.blk (b := w.heap.size) (t := 27) (cs := [.slice A n c, .slice B m d]) (by simp)).cell 0 _ rfl
      have k1 := (HF.out.blk (b := w.heap.size) (t := 27) (cs := [.slice A n c, .slice B m d]) (by simp)).cell 1 _ rfl
      have k2 := (HF.out.blk (b := w.heap.size + 1) (t := 27) (cs := [.slice C q c2, .slice D q2 d2]) (by simp)).cell 0 _ rfl
      have k3 := (HF.out.blk (b := w.heap.size + 1) (t := 27) (cs := [.slice C q c2, .slice D q2 d2]) (by simp)).cell 1 _ rfl
      have k4 := (HF.out.blk (b := Lm) (t := 2) (cs := [.int .i64 q]) (by simp)).cell 0 _ rfl
      go_region_held3 (fun w' => w'.cell? ⟨w.heap.size, 0, none⟩ = some (.slice A n c) ∧ w'.cell? ⟨w.heap.size, 1, none⟩ = some (.slice B m d) ∧ w'.cell? ⟨Lm, 0, none⟩ = some (.int .i64 q)) (first | exact ⟨k0, k1, k4⟩ | go_keep) (first | (go_at_call 63; go_must (refine calls_gen fun wc hwc => ?_; (first | have hbx := drew_below hwc | have hbx := eq_below hwc); replace HF := hide (HF.out.later hbx); clear hwc hbx; refine (size_any _ _ _ _ _ _ _ hnb).mono ?_; rintro e wd ⟨rfl, hbd⟩; replace HF := hide (HF.out.later hbd); clear hbd; have k0 := (HF.out.blk (b := w.heap.size) (t := 27) (cs := [.slice A n c, .slice B m d]) (by simp)).cell 0 _ rfl; have k1 := (HF.out.blk (b := w.heap.size) (t := 27) (cs := [.slice A n c, .slice B m d]) (by simp)).cell 1 _ rfl; have k2 := (HF.out.blk (b := w.heap.size + 1) (t := 27) (cs := [.slice C q c2, .slice D q2 d2]) (by simp)).cell 0 _ rfl; have k3 := (HF.out.blk (b := w.heap.size + 1) (t := 27) (cs := [.slice C q c2, .slice D q2 d2]) (by simp)).cell 1 _ rfl; have k4 := (HF.out.blk (b := Lm) (t := 2) (cs := [.int .i64 q]) (by simp)).cell 0 _ rfl)))
      have k0 := (HF.out.blk (b := w.heap.size) (t := 27) (cs := [.slice A n c, .slice B m d]) (by simp)).cell 0 _ rfl
      have k1 := (HF.out.blk (b := w.heap.size) (t := 27) (cs := [.slice A n c, .slice B m d]) (by simp)).cell 1 _ rfl
      have k2 := (HF.out.blk (b := w.heap.size + 1) (t := 27) (cs := [.slice C q c2, .slice D q2 d2]) (by simp)).cell 0 _ rfl
      have k3 := (HF.out.blk (b := w.heap.size + 1) (t := 27) (cs := [.slice C q c2, .slice D q2 d2]) (by simp)).cell 1 _ rfl
      have k4 := (HF.out.blk (b := Lm) (t := 2) (cs := [.int .i64 q]) (by simp)).cell 0 _ rfl
      have HR := hide (HF.out.blk (b := w.heap.size + 1 + 1) (t := 27) (cs := [.slice none 0 0, .slice none 0 0]) (by simp))
      have r0 := HR.out.cell 0 _ rfl
      have r1 := HR.out.cell 1 _ rfl
      have r2 := HR.out.frozen 0
      have r3 := HR.out.frozen 1
      go_wp2_with fail
      refine bp_gen fun wf hwf => ?_
      obtain ⟨q0, q1, hbf, hof⟩ := zend (ts := 31) (t := 2) (w2 := wd) hwf HR.out (by omega) HR.out.lt HF.out.below HF.out.below.size (ObjZ.empty (Nat.le_refl _))
      clear hwf r0 r1 r2 r3
      exact bodyPost_ret (v := .tuple #[.agg #[.slice none 0 0, .slice none 0 0], .int .i64 3]) (by simp [results, Try.results40, go_sem, q0, q1]) rfl ⟨_, _, _, _, rfl, hbf, hof⟩
    · exact absurd ⟨hp1, hp2⟩ h
  · rcases hr with ⟨h, _⟩ | ⟨h, _⟩ | ⟨_, rfl, rfl, rfl⟩
    · exact absurd h.2 hp2
    · exact absurd h.2 hp2
    · have HP := hide hp1
      have HP2 := hide hp2
      clear hp1 hp2
      obtain rfl : kz = 0 := by simpa using hk.fl.symm
      obtain rfl : kw = 0 := by simpa using hk.sl.symm
      clear hk
      clear hz hz2
      go_enter Try.func40, Try.ntmps40
      go_wp2_with fail
      refine calls_gen fun w0 hw0 => ?_
      have HF : Hid (FB w w0 (w0.heap.size - 1) [(w.heap.size + 1 + 1, 27, [.slice none 0 0, .slice none 0 0]), (w.heap.size + 1, 27, [.slice C q c2, .slice D q2 d2]), (w.heap.size, 27, [.slice A n c, .slice B m d])]) := hide (by
        have hb0 : Below w.heap.size w w0 := by rw [hw0]; exact (((Below.refl _ _).alloc (Nat.le_refl _) _).alloc (by simp) _).alloc (by simp; omega) _
        have a1 : Blk w0 w.heap.size 27 [.slice A n c, .slice B m d] := by rw [hw0]; exact ((Blk.new _ _ _).alloc _).alloc _
        have a2 : Blk w0 (w.heap.size + 1) 27 [.slice C q c2, .slice D q2 d2] := by rw [hw0]; have h := (Blk.new (w.alloc (Obj.cells #[Value.slice A n c, Value.slice B m d] 27)) 27 [.slice C q c2, .slice D q2 d2]).alloc (Obj.cells #[Value.slice none 0 0, Value.slice none 0 0] 27); simpa using h
        have a3 : Blk w0 (w.heap.size + 1 + 1) 27 [.slice none 0 0, .slice none 0 0] := by rw [hw0]; have h := Blk.new ((w.alloc (Obj.cells #[Value.slice A n c, Value.slice B m d] 27)).alloc (Obj.cells #[Value.slice C q c2, Value.slice D q2 d2] 27)) 27 [.slice none 0 0, .slice none 0 0]; simpa using h
        refine FB.of hb0 a1.lt ?_
        simp only [List.forall_mem_cons]
        exact ⟨a3, a2, a1, fun q hq => absurd hq (List.not_mem_nil)⟩)
      clear hw0
      refine (mapI_any _ _ _ f _ _ _ s true _ (HZ.out.later HF.out.below) (by simp [HP.out])).mono ?_
      rintro e wd ⟨rfl, hbd⟩
      replace HF := hide (HF.out.later hbd)
      clear hbd
      have k0 := (HF.out.blk (b := w.heap.size) (t := 27) (cs := [.slice A n c, .slice B m d]) (by simp)).cell 0 _ rfl
      have k1 := (HF.out.blk (b := w.heap.size) (t := 27) (cs := [.slice A n c, .slice B m d]) (by simp)).cell 1 _ rfl
      have k2 := (HF.out.blk (b := w.heap.size + 1) (t := 27) (cs := [.slice C q c2, .slice D q2 d2]) (by simp)).cell 0 _ rfl
      have k3 := (HF.out.blk (b := w.heap.size + 1) (t := 27) (cs := [.slice C q c2, .slice D q2 d2]) (by simp)).cell 1 _ rfl
      go_wp2_with fail
      clear k0 k1 k2 k3
      refine (mapI_any _ _ _ f2 _ _ _ s2 false _ (HZ2.out.later HF.out.below) (by simp [HP2.out])).mono ?_
      rintro e wd ⟨rfl, hbd⟩
      replace HF := hide (HF.out.later hbd)
      clear hbd
      have HR := hide (HF.out.blk (b := w.heap.size + 1 + 1) (t := 27) (cs := [.slice none 0 0, .slice none 0 0]) (by simp))
      have r0 := HR.out.cell 0 _ rfl
      have r1 := HR.out.cell 1 _ rfl
      have r2 := HR.out.frozen 0
      have r3 := HR.out.frozen 1
      go_wp2_with fail
      refine bp_gen fun wf hwf => ?_
      obtain ⟨q0, q1, hbf, hof⟩ := zend (ts := 31) (t := 2) (w2 := wd) hwf HR.out (by omega) HR.out.lt HF.out.below HF.out.below.size (ObjZ.empty (Nat.le_refl _))
      clear hwf r0 r1 r2 r3
      exact bodyPost_ret (v := .tuple #[.agg #[.slice none 0 0, .slice none 0 0], .int .i64 1]) (by simp [results, Try.results40, go_sem, q0, q1]) rfl ⟨_, _, _, _, rfl, hbf, hof⟩
  · rcases hr with ⟨h, _⟩ | ⟨h, _⟩ | ⟨_, rfl, rfl, rfl⟩
    · exact absurd h.1 hp1
    · exact absurd h.1 hp1
    · have HP := hide hp1
      clear hp1
      obtain rfl : kz = 0 := by simpa using hk.fl.symm
      obtain rfl : kw = 0 := by simpa using hk.sl.symm
      clear hk
      clear hz hz2
      go_enter Try.func40, Try.ntmps40
      go_wp2_with fail
      refine calls_gen fun w0 hw0 => ?_
      have HF : Hid (FB w w0 (w0.heap.size - 1) [(w.heap.size + 1 + 1, 27, [.slice none 0 0, .slice none 0 0]), (w.heap.size + 1, 27, [.slice C q c2, .slice D q2 d2]), (w.heap.size, 27, [.slice A n c, .slice B m d])]) := hide (by
        have hb0 : Below w.heap.size w w0 := by rw [hw0]; exact (((Below.refl _ _).alloc (Nat.le_refl _) _).alloc (by simp) _).alloc (by simp; omega) _
        have a1 : Blk w0 w.heap.size 27 [.slice A n c, .slice B m d] := by rw [hw0]; exact ((Blk.new _ _ _).alloc _).alloc _
        have a2 : Blk w0 (w.heap.size + 1) 27 [.slice C q c2, .slice D q2 d2] := by rw [hw0]; have h := (Blk.new (w.alloc (Obj.cells #[Value.slice A n c, Value.slice B m d] 27)) 27 [.slice C q c2, .slice D q2 d2]).alloc (Obj.cells #[Value.slice none 0 0, Value.slice none 0 0] 27); simpa using h
        have a3 : Blk w0 (w.heap.size + 1 + 1) 27 [.slice none 0 0, .slice none 0 0] := by rw [hw0]; have h := Blk.new ((w.alloc (Obj.cells #[Value.slice A n c, Value.slice B m d] 27)).alloc (Obj.cells #[Value.slice C q c2, Value.slice D q2 d2] 27)) 27 [.slice none 0 0, .slice none 0 0]; simpa using h
        refine FB.of hb0 a1.lt ?_
        simp only [List.forall_mem_cons]
        exact ⟨a3, a2, a1, fun q hq => absurd hq (List.not_mem_nil)⟩)
      clear hw0
      refine (mapI_any _ _ _ f _ _ _ s false _ (HZ.out.later HF.out.below) (by simp [HP.out])).mono ?_
      rintro e wd ⟨rfl, hbd⟩
      replace HF := hide (HF.out.later hbd)
      clear hbd
      have HR := hide (HF.out.blk (b := w.heap.size + 1 + 1) (t := 27) (cs := [.slice none 0 0, .slice none 0 0]) (by simp))
      have r0 := HR.out.cell 0 _ rfl
      have r1 := HR.out.cell 1 _ rfl
      have r2 := HR.out.frozen 0
      have r3 := HR.out.frozen 1
      go_wp2_with fail
      refine bp_gen fun wf hwf => ?_
      obtain ⟨q0, q1, hbf, hof⟩ := zend (ts := 31) (t := 2) (w2 := wd) hwf HR.out (by omega) HR.out.lt HF.out.below HF.out.below.size (ObjZ.empty (Nat.le_refl _))
      clear hwf r0 r1 r2 r3
      exact bodyPost_ret (v := .tuple #[.agg #[.slice none 0 0, .slice none 0 0], .int .i64 1]) (by simp [results, Try.results40, go_sem, q0, q1]) rfl ⟨_, _, _, _, rfl, hbf, hof⟩
end Go.Proofs.Ytanldiildinbdaa
