import Derived.Test.YtljdfanebjhhmaaZbd
namespace Go.Proofs.Ytljdfanebjhhmaa
open Go Go.RowKit
set_option maxHeartbeats 2000000

set_option maxRecDepth 100000 in
theorem qtI_any (A : Option Addr) (n c : Nat) (f : List (List Int)) (B : Option Addr) (m d : Nat) (xs : List Int) (zs : List (List Int)) (code : Int) (k : Nat) (w : World) (hn : f.length = n) (hb : n ≤ 1048576) (hbs : ∀ i, i < f.length → (f.getD i []).length ≤ 1048576) (hr : Rd2 w A f) (hm : xs.length = m) (hbm : m ≤ 1048576) (hx : Rd w B xs) (hres : QtRes f xs zs code) (hk : zs.length = k) :
    Calls Try.prog 24 #[.agg #[.slice A n c], .slice B m d] w (fun e w' => ∃ A' c', e = .returned (.tuple #[.agg #[.slice A' k c'], .int .i64 code]) ∧ Below w.heap.size w w' ∧ Obj2 33 2 w.heap.size w'.heap.size w' A' zs) := by
  have HN := hide hn
  have HBS := hide hbs
  have HRD := hide hr
  have HM := hide hm
  have HX := hide hx
  clear hbs hr hx
  rcases hres with ⟨⟨h1, h2⟩, h3, rfl, rfl⟩ | ⟨⟨h1, h2⟩, h3, rfl, rfl⟩ | ⟨hno, rfl, rfl⟩
  · have HTB := hide h1.tbl
    have h1n : 1 ≤ n := by rw [← hn]; exact h1.tbl.1
    have h12 : n ≤ 12 := by rw [← hn]; exact h1.tbl.2.1
    have HP := hide h2
    have hmn : m = n := by rw [← hm, h2.1, hn]
    have h1m : 1 ≤ m := by omega
    have h12m : m ≤ 12 := by omega
    have HMN := hide hmn
    have HPP : Hid (m = n ∧ Canon xs) := hide ⟨hmn, h2.2⟩
    have HCD : Hid (CdRes f xs 0) := hide (.inl ⟨h1, h2, rfl⟩)
    have HRK : Hid (RkRes f true) := hide (by unfold RkRes; simp [h1])
    have HCG := hide h3
    have hkk : nxt xs m = k := by rw [← hk, grid_length, hm]
    have hk1 : 1 ≤ k := by rw [← hkk, ← hm]; exact nxt_pos h2.2 (by omega)
    have hkm : k ≤ m := by rw [← hkk]; exact nxt_le xs m
    have HMX : Hid (IsMax xs ((k - 1 : Nat) : Int)) := hide (by rw [← hkk, ← hm]; exact nxt_max h2.2 (by omega))
    have hkz : ((k - 1 : Nat) : Int) + 1 = (k : Int) := by omega
    obtain ⟨k', hk'⟩ : ∃ a, k - 1 = a := ⟨_, rfl⟩
    rw [hk'] at HMX hkz
    rw [hm, hkk]
    have HKK := hide hkk
    clear hn hm hk h1 h2 h3 hk' hkk hmn
    go_enter Try.func24, Try.ntmps24
    go_wp2_with fail
    refine calls_gen fun wd hw0 => ?_
    have HB : Hid (Below w.heap.size w wd) := hide (by rw [hw0]; exact (((Below.refl _ _).alloc (Nat.le_refl _) _).alloc (by simp) _).alloc (by simp; omega) _)
    have HK : Hid (Blk wd w.heap.size 26 [.slice A n c]) := hide (by rw [hw0]; exact ((Blk.new _ _ _).alloc _).alloc _)
    have HL : Hid (Blk wd (w.heap.size + 1) 33 [.slice B m d]) := hide (by rw [hw0]; have h := (Blk.new (w.alloc (Obj.cells #[.slice A n c] 26)) 33 [.slice B m d]).alloc (Obj.cells #[.slice none 0 0] 26); simpa using h)
    have HR : Hid (Blk wd (w.heap.size + 1 + 1) 26 [.slice none 0 0]) := hide (by rw [hw0]; have h := Blk.new ((w.alloc (Obj.cells #[.slice A n c] 26)).alloc (Obj.cells #[.slice B m d] 33)) 26 [.slice none 0 0]; simpa using h)
    clear hw0
    refine (isRackI _ _ _ f true _ HN.out hb HBS.out (HRD.out.later HB.out) HRK.out).mono ?_
    rintro e wd ⟨rfl, hbd⟩
    replace HB := hide (HB.out.trans (hbd.mono HB.out.size))
    replace HK := hide (HK.out.later hbd)
    replace HL := hide (HL.out.later hbd)
    replace HR := hide (HR.out.later hbd)
    clear hbd
    have k0 := HK.out.cell 0 _ rfl
    have k1 := HL.out.cell 0 _ rfl
    go_wp2_with fail
    clear k0 k1
    refine (isPart_any _ n _ _ _ _ xs true _ hb HM.out hbm (HX.out.later HB.out) (by simp [HPP.out.2]; exact HPP.out.1)).mono ?_
    rintro e wd ⟨rfl, hbd⟩
    replace HB := hide (HB.out.trans (hbd.mono HB.out.size))
    replace HK := hide (HK.out.later hbd)
    replace HL := hide (HL.out.later hbd)
    replace HR := hide (HR.out.later hbd)
    clear hbd
    have k0 := HK.out.cell 0 _ rfl
    have k1 := HL.out.cell 0 _ rfl
    go_wp2_with fail
    clear k0 k1
    refine (hasCg_any _ _ _ f _ _ _ xs true _ HN.out HTB.out (HRD.out.later HB.out) HM.out (HX.out.later HB.out) HP.out (by simp [HCG.out])).mono ?_
    rintro e wd ⟨rfl, hbd⟩
    replace HB := hide (HB.out.trans (hbd.mono HB.out.size))
    replace HK := hide (HK.out.later hbd)
    replace HL := hide (HL.out.later hbd)
    replace HR := hide (HR.out.later hbd)
    clear hbd
    have k0 := HK.out.cell 0 _ rfl
    have k1 := HL.out.cell 0 _ rfl
    go_wp2_with fail
    clear k0 k1
    refine (max_any _ m _ xs (k' : Int) _ HM.out (by omega) hbm (HX.out.later HB.out) HMX.out).mono ?_
    rintro e wd ⟨rfl, hbd⟩
    replace HB := hide (HB.out.trans (hbd.mono HB.out.size))
    replace HK := hide (HK.out.later hbd)
    replace HL := hide (HL.out.later hbd)
    replace HR := hide (HR.out.later hbd)
    clear hbd
    go_wp2_with fail
    refine (rackOf_any 56 _ k (quH f xs) _ (enters_of Try.func56 (by kernel_rfl) rfl) hk1 (by omega) (qtC_any _ n _ f _ m _ xs w.heap.size (w.heap.size + 1) _ HN.out HTB.out (HRD.out.later HB.out) HM.out HMN.out (HX.out.later HB.out) HPP.out.2 k HKK.out HK.out HL.out)).mono ?_
    rintro e we ⟨A3, c3, rfl, hbd, ho3⟩
    have HO3 := hide ho3
    have hlow : w.heap.size + 1 + 1 < wd.heap.size := HR.out.lt
    replace HB := hide (HB.out.trans (hbd.mono HB.out.size))
    replace HR := hide (HR.out.later hbd)
    clear hbd ho3
    have k2 := fun o => (HR.out.alloc o).cell 0 _ rfl
    have k3 := fun o => (HR.out.alloc o).frozen 0
    go_wp2_with fail
    refine bp_gen fun wf hwf => ?_
    obtain ⟨q0, hbf, hof⟩ := kend hwf (HR.out.alloc _) (by omega) (HB.out.alloc HB.out.size _) (HO3.out.later ((Below.refl _ _).alloc (Nat.le_refl _) _)) (by omega) hlow (by simp)
    clear hwf k2 k3
    exact bodyPost_ret (v := .tuple #[.agg #[.slice A3 k c3], .int .i64 0]) (by simp [results, Try.results24, go_sem, q0]) rfl ⟨_, _, rfl, hbf, hof⟩
  · have HTB := hide h1.tbl
    have h1n : 1 ≤ n := by rw [← hn]; exact h1.tbl.1
    have h12 : n ≤ 12 := by rw [← hn]; exact h1.tbl.2.1
    have HP := hide h2
    have hmn : m = n := by rw [← hm, h2.1, hn]
    have h1m : 1 ≤ m := by omega
    have h12m : m ≤ 12 := by omega
    have HMN := hide hmn
    have HPP : Hid (m = n ∧ Canon xs) := hide ⟨hmn, h2.2⟩
    have HCD : Hid (CdRes f xs 0) := hide (.inl ⟨h1, h2, rfl⟩)
    have HRK : Hid (RkRes f true) := hide (by unfold RkRes; simp [h1])
    have hk0 : k = 0 := by rw [← hk]; rfl
    subst hk0
    have HCG := hide h3
    clear hn hm hk h1 h2 h3 hmn
    go_enter Try.func24, Try.ntmps24
    go_wp2_with fail
    refine calls_gen fun wd hw0 => ?_
    have HB : Hid (Below w.heap.size w wd) := hide (by rw [hw0]; exact (((Below.refl _ _).alloc (Nat.le_refl _) _).alloc (by simp) _).alloc (by simp; omega) _)
    have HK : Hid (Blk wd w.heap.size 26 [.slice A n c]) := hide (by rw [hw0]; exact ((Blk.new _ _ _).alloc _).alloc _)
    have HL : Hid (Blk wd (w.heap.size + 1) 33 [.slice B m d]) := hide (by rw [hw0]; have h := (Blk.new (w.alloc (Obj.cells #[.slice A n c] 26)) 33 [.slice B m d]).alloc (Obj.cells #[.slice none 0 0] 26); simpa using h)
    have HR : Hid (Blk wd (w.heap.size + 1 + 1) 26 [.slice none 0 0]) := hide (by rw [hw0]; have h := Blk.new ((w.alloc (Obj.cells #[.slice A n c] 26)).alloc (Obj.cells #[.slice B m d] 33)) 26 [.slice none 0 0]; simpa using h)
    clear hw0
    refine (isRackI _ _ _ f true _ HN.out hb HBS.out (HRD.out.later HB.out) HRK.out).mono ?_
    rintro e wd ⟨rfl, hbd⟩
    replace HB := hide (HB.out.trans (hbd.mono HB.out.size))
    replace HK := hide (HK.out.later hbd)
    replace HL := hide (HL.out.later hbd)
    replace HR := hide (HR.out.later hbd)
    clear hbd
    have k0 := HK.out.cell 0 _ rfl
    have k1 := HL.out.cell 0 _ rfl
    go_wp2_with fail
    clear k0 k1
    refine (isPart_any _ n _ _ _ _ xs true _ hb HM.out hbm (HX.out.later HB.out) (by simp [HPP.out.2]; exact HPP.out.1)).mono ?_
    rintro e wd ⟨rfl, hbd⟩
    replace HB := hide (HB.out.trans (hbd.mono HB.out.size))
    replace HK := hide (HK.out.later hbd)
    replace HL := hide (HL.out.later hbd)
    replace HR := hide (HR.out.later hbd)
    clear hbd
    have k0 := HK.out.cell 0 _ rfl
    have k1 := HL.out.cell 0 _ rfl
    go_wp2_with fail
    clear k0 k1
    refine (hasCg_any _ _ _ f _ _ _ xs false _ HN.out HTB.out (HRD.out.later HB.out) HM.out (HX.out.later HB.out) HP.out (by simp [HCG.out])).mono ?_
    rintro e wd ⟨rfl, hbd⟩
    replace HB := hide (HB.out.trans (hbd.mono HB.out.size))
    replace HK := hide (HK.out.later hbd)
    replace HL := hide (HL.out.later hbd)
    replace HR := hide (HR.out.later hbd)
    clear hbd
    have k2 := HR.out.cell 0 _ rfl
    have k3 := HR.out.frozen 0
    go_wp2_with fail
    refine bp_gen fun wf hwf => ?_
    have HRF : Blk wf (w.heap.size + 1 + 1) 26 [.slice none 0 0] := by rw [hwf]; first | exact HR.out | exact HR.out.set 0 _
    have hbf : Below w.heap.size w wf := by rw [hwf]; first | exact HB.out | exact HB.out.setCell (p := ⟨w.heap.size + 1 + 1, 0, none⟩) (by show w.heap.size ≤ w.heap.size + 1 + 1; omega) _
    have q0 := HRF.cell 0 _ rfl
    clear hwf k2 k3
    exact bodyPost_ret (v := .tuple #[.agg #[.slice none 0 0], .int .i64 5]) (by simp [results, Try.results24, go_sem, q0]) rfl ⟨_, _, rfl, hbf, .inl ⟨rfl, rfl⟩⟩
  · by_cases h1 : Rck f
    · have hk0 : k = 0 := by rw [← hk]; rfl
      subst hk0
      have HPP : Hid (¬ (m = n ∧ Canon xs)) := hide (fun h => hno ⟨h1, by rw [hm, hn]; exact h.1, h.2⟩)
      have HRK : Hid (RkRes f true) := hide (by unfold RkRes; simp [h1])
      clear hn hm hk h1 hno
      go_enter Try.func24, Try.ntmps24
      go_wp2_with fail
      refine calls_gen fun wd hw0 => ?_
      have HB : Hid (Below w.heap.size w wd) := hide (by rw [hw0]; exact (((Below.refl _ _).alloc (Nat.le_refl _) _).alloc (by simp) _).alloc (by simp; omega) _)
      have HK : Hid (Blk wd w.heap.size 26 [.slice A n c]) := hide (by rw [hw0]; exact ((Blk.new _ _ _).alloc _).alloc _)
      have HL : Hid (Blk wd (w.heap.size + 1) 33 [.slice B m d]) := hide (by rw [hw0]; have h := (Blk.new (w.alloc (Obj.cells #[.slice A n c] 26)) 33 [.slice B m d]).alloc (Obj.cells #[.slice none 0 0] 26); simpa using h)
      have HR : Hid (Blk wd (w.heap.size + 1 + 1) 26 [.slice none 0 0]) := hide (by rw [hw0]; have h := Blk.new ((w.alloc (Obj.cells #[.slice A n c] 26)).alloc (Obj.cells #[.slice B m d] 33)) 26 [.slice none 0 0]; simpa using h)
      clear hw0
      refine (isRackI _ _ _ f true _ HN.out hb HBS.out (HRD.out.later HB.out) HRK.out).mono ?_
      rintro e wd ⟨rfl, hbd⟩
      replace HB := hide (HB.out.trans (hbd.mono HB.out.size))
      replace HK := hide (HK.out.later hbd)
      replace HL := hide (HL.out.later hbd)
      replace HR := hide (HR.out.later hbd)
      clear hbd
      have k0 := HK.out.cell 0 _ rfl
      have k1 := HL.out.cell 0 _ rfl
      go_wp2_with fail
      clear k0 k1
      refine (isPart_any _ n _ _ _ _ xs false _ hb HM.out hbm (HX.out.later HB.out) (by simpa using HPP.out)).mono ?_
      rintro e wd ⟨rfl, hbd⟩
      replace HB := hide (HB.out.trans (hbd.mono HB.out.size))
      replace HK := hide (HK.out.later hbd)
      replace HL := hide (HL.out.later hbd)
      replace HR := hide (HR.out.later hbd)
      clear hbd
      have k2 := HR.out.cell 0 _ rfl
      have k3 := HR.out.frozen 0
      go_wp2_with fail
      refine bp_gen fun wf hwf => ?_
      have HRF : Blk wf (w.heap.size + 1 + 1) 26 [.slice none 0 0] := by rw [hwf]; first | exact HR.out | exact HR.out.set 0 _
      have hbf : Below w.heap.size w wf := by rw [hwf]; first | exact HB.out | exact HB.out.setCell (p := ⟨w.heap.size + 1 + 1, 0, none⟩) (by show w.heap.size ≤ w.heap.size + 1 + 1; omega) _
      have q0 := HRF.cell 0 _ rfl
      clear hwf k2 k3
      exact bodyPost_ret (v := .tuple #[.agg #[.slice none 0 0], .int .i64 1]) (by simp [results, Try.results24, go_sem, q0]) rfl ⟨_, _, rfl, hbf, .inl ⟨rfl, rfl⟩⟩
    · have hk0 : k = 0 := by rw [← hk]; rfl
      subst hk0
      have HRK : Hid (RkRes f false) := hide (by unfold RkRes; simp [h1])
      clear hn hm hk h1 hno
      go_enter Try.func24, Try.ntmps24
      go_wp2_with fail
      refine calls_gen fun wd hw0 => ?_
      have HB : Hid (Below w.heap.size w wd) := hide (by rw [hw0]; exact (((Below.refl _ _).alloc (Nat.le_refl _) _).alloc (by simp) _).alloc (by simp; omega) _)
      have HK : Hid (Blk wd w.heap.size 26 [.slice A n c]) := hide (by rw [hw0]; exact ((Blk.new _ _ _).alloc _).alloc _)
      have HL : Hid (Blk wd (w.heap.size + 1) 33 [.slice B m d]) := hide (by rw [hw0]; have h := (Blk.new (w.alloc (Obj.cells #[.slice A n c] 26)) 33 [.slice B m d]).alloc (Obj.cells #[.slice none 0 0] 26); simpa using h)
      have HR : Hid (Blk wd (w.heap.size + 1 + 1) 26 [.slice none 0 0]) := hide (by rw [hw0]; have h := Blk.new ((w.alloc (Obj.cells #[.slice A n c] 26)).alloc (Obj.cells #[.slice B m d] 33)) 26 [.slice none 0 0]; simpa using h)
      clear hw0
      refine (isRackI _ _ _ f false _ HN.out hb HBS.out (HRD.out.later HB.out) HRK.out).mono ?_
      rintro e wd ⟨rfl, hbd⟩
      replace HB := hide (HB.out.trans (hbd.mono HB.out.size))
      replace HK := hide (HK.out.later hbd)
      replace HL := hide (HL.out.later hbd)
      replace HR := hide (HR.out.later hbd)
      clear hbd
      have k2 := HR.out.cell 0 _ rfl
      have k3 := HR.out.frozen 0
      go_wp2_with fail
      refine bp_gen fun wf hwf => ?_
      have HRF : Blk wf (w.heap.size + 1 + 1) 26 [.slice none 0 0] := by rw [hwf]; first | exact HR.out | exact HR.out.set 0 _
      have hbf : Below w.heap.size w wf := by rw [hwf]; first | exact HB.out | exact HB.out.setCell (p := ⟨w.heap.size + 1 + 1, 0, none⟩) (by show w.heap.size ≤ w.heap.size + 1 + 1; omega) _
      have q0 := HRF.cell 0 _ rfl
      clear hwf k2 k3
      exact bodyPost_ret (v := .tuple #[.agg #[.slice none 0 0], .int .i64 1]) (by simp [results, Try.results24, go_sem, q0]) rfl ⟨_, _, rfl, hbf, .inl ⟨rfl, rfl⟩⟩

end Go.Proofs.Ytljdfanebjhhmaa
