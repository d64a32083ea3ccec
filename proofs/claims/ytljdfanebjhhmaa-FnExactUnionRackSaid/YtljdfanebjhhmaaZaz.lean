import Derived.Test.YtljdfanebjhhmaaZas
import Derived.Test.YtljdfanebjhhmaaZaq
import Derived.Test.YtljdfanebjhhmaaZu
namespace Go.Proofs.Ytljdfanebjhhmaa
open Go Go.RowKit
set_option maxHeartbeats 2000000

set_option maxRecDepth 100000 in
theorem udI_any (A : Option Addr) (n c : Nat) (f : List (List Int)) (C : Option Addr) (q c2 : Nat) (f2 : List (List Int)) (zs : List (List Int)) (code : Int) (k : Nat) (w : World) (hn : f.length = n) (hb : n ≤ 1048576) (hbs : ∀ i, i < f.length → (f.getD i []).length ≤ 1048576) (hr : Rd2 w A f) (hn2 : f2.length = q) (hb2 : q ≤ 1048576) (hbs2 : ∀ i, i < f2.length → (f2.getD i []).length ≤ 1048576) (hr2 : Rd2 w C f2) (hres : UdRes f f2 zs code) (hk : zs.length = k) :
    Calls Try.prog 18 #[.agg #[.slice A n c], .agg #[.slice C q c2]] w (fun e w' => ∃ A' c', e = .returned (.tuple #[.agg #[.slice A' k c'], .int .i64 code]) ∧ Below w.heap.size w w' ∧ Obj2 33 2 w.heap.size w'.heap.size w' A' zs) := by
  have HN := hide hn
  have HBS := hide hbs
  have HRD := hide hr
  have HN2 := hide hn2
  have HBS2 := hide hbs2
  have HRD2 := hide hr2
  clear hn hbs hr hn2 hbs2 hr2
  rcases hres with ⟨hg, hlim, rfl, rfl⟩ | ⟨hg, hlim, rfl, rfl⟩ | ⟨hg, rfl, rfl⟩
  · have HT1 := hide hg.1.tbl
    have HT2 := hide hg.2.tbl
    have HRK1 : Hid (RkRes f true) := hide (by unfold RkRes; simp [hg.1])
    have HRK2 : Hid (RkRes f2 true) := hide (by unfold RkRes; simp [hg.2])
    have hn0 : 1 ≤ n ∧ n ≤ 12 := by have h := hg.1.tbl; rw [← HN.out]; exact ⟨h.1, h.2.1⟩
    have hq0 : 1 ≤ q ∧ q ≤ 12 := by have h := hg.2.tbl; rw [← HN2.out]; exact ⟨h.1, h.2.1⟩
    obtain ⟨sz, hsz⟩ : ∃ a, n + q = a := ⟨_, rfl⟩
    have hsq : sz ≤ 24 := by omega
    have h1s : 1 ≤ sz := by omega
    have hsi : (n : Int) + (q : Int) = (sz : Int) := by rw [← hsz]; simp
    have hwk : IntKind.i64.wrap (sz : Int) = (sz : Int) := IntWalk.i64_in _ (by omega)
    have HSZ := hide hsz
    have hkk : k = sz := by rw [← hk, grid_length, HN.out, HN2.out, hsz]
    have hle : sz ≤ 12 := by rw [← hsz, ← HN.out, ← HN2.out]; exact hlim
    subst hkk
    rw [HN.out, HN2.out, HSZ.out]
    clear hg hk hlim hsz
    go_enter Try.func18, Try.ntmps18
    go_wp2_with fail
    refine calls_gen fun wd hw0 => ?_
    have HB : Hid (Below w.heap.size w wd) := hide (by rw [hw0]; exact (((Below.refl _ _).alloc (Nat.le_refl _) _).alloc (by simp) _).alloc (by simp; omega) _)
    have HK : Hid (Blk wd w.heap.size 26 [.slice A n c]) := hide (by rw [hw0]; exact ((Blk.new _ _ _).alloc _).alloc _)
    have HL : Hid (Blk wd (w.heap.size + 1) 26 [.slice C q c2]) := hide (by rw [hw0]; have h := (Blk.new (w.alloc (Obj.cells #[.slice A n c] 26)) 26 [.slice C q c2]).alloc (Obj.cells #[.slice none 0 0] 26); simpa using h)
    have HR : Hid (Blk wd (w.heap.size + 1 + 1) 26 [.slice none 0 0]) := hide (by rw [hw0]; have h := Blk.new ((w.alloc (Obj.cells #[.slice A n c] 26)).alloc (Obj.cells #[.slice C q c2] 26)) 26 [.slice none 0 0]; simpa using h)
    clear hw0
    have hng : ¬ (12 : Int) < (k : Int) := by omega
    refine (isRackI _ _ _ f true _ HN.out hb HBS.out (HRD.out.later HB.out) HRK1.out).mono ?_
    rintro e wd ⟨rfl, hbd⟩
    replace HB := hide (HB.out.trans (hbd.mono HB.out.size))
    replace HK := hide (HK.out.later hbd)
    replace HL := hide (HL.out.later hbd)
    replace HR := hide (HR.out.later hbd)
    clear hbd
    have k0 := HK.out.cell 0 _ rfl
    have k1 := HL.out.cell 0 _ rfl
    go_wp2_with fail
    clear k0 k1
    refine (isRackI _ _ _ f2 true _ HN2.out hb2 HBS2.out (HRD2.out.later HB.out) HRK2.out).mono ?_
    rintro e wd ⟨rfl, hbd⟩
    replace HB := hide (HB.out.trans (hbd.mono HB.out.size))
    replace HK := hide (HK.out.later hbd)
    replace HL := hide (HL.out.later hbd)
    replace HR := hide (HR.out.later hbd)
    clear hbd
    have k0 := HK.out.cell 0 _ rfl
    have k1 := HL.out.cell 0 _ rfl
    go_wp2_with fail
    refine (ksize_any _ n _ _ (by omega)).mono ?_
    rintro e wd ⟨rfl, hbd⟩
    replace HB := hide (HB.out.trans (hbd.mono HB.out.size))
    replace HK := hide (HK.out.later hbd)
    replace HL := hide (HL.out.later hbd)
    replace HR := hide (HR.out.later hbd)
    clear hbd
    go_wp2_with fail
    refine wp_gen fun w5 hw5 => ?_
    obtain ⟨Lm, hLm⟩ : ∃ L, wd.heap.size = L := ⟨_, rfl⟩
    have hb5 : Below wd.heap.size wd w5 := by rw [hw5]; exact (Below.refl _ _).alloc (Nat.le_refl _) _
    have HM : Hid (Blk w5 Lm 2 [.int .i64 n]) := hide (by rw [hw5, ← hLm]; exact Blk.new _ _ _)
    have HLM : Hid (w.heap.size + 1 + 1 < Lm) := hide (by rw [← hLm]; exact HR.out.lt)
    replace HB := hide (HB.out.trans (hb5.mono HB.out.size))
    replace HK := hide (HK.out.later hb5)
    replace HL := hide (HL.out.later hb5)
    replace HR := hide (HR.out.later hb5)
    rw [hLm]
    clear hw5 hb5 hLm k0 k1
    have k0 := HK.out.cell 0 _ rfl
    have k1 := HL.out.cell 0 _ rfl
    have k4 := HM.out.cell 0 _ rfl
    go_region_held3 (fun w' => w'.cell? ⟨w.heap.size + 1, 0, none⟩ = some (.slice C q c2) ∧ w'.cell? ⟨Lm, 0, none⟩ = some (.int .i64 n)) (first | exact ⟨k1, k4⟩ | go_keep) (first | (go_at_call 42; go_must (refine calls_gen fun wc hwc => ?_; (first | have hbx := drew_below hwc | have hbx := eq_below hwc); replace HB := hide (HB.out.trans (hbx.mono HB.out.size)); replace HK := hide (HK.out.later hbx); replace HL := hide (HL.out.later hbx); replace HR := hide (HR.out.later hbx); replace HM := hide (HM.out.later hbx); clear hwc hbx; refine (ksize_any _ q _ _ (by omega)).mono ?_; rintro e wd ⟨rfl, hbd⟩; replace HB := hide (HB.out.trans (hbd.mono HB.out.size)); replace HK := hide (HK.out.later hbd); replace HL := hide (HL.out.later hbd); replace HR := hide (HR.out.later hbd); replace HM := hide (HM.out.later hbd); clear hbd; have k0 := HK.out.cell 0 _ rfl; have k1 := HL.out.cell 0 _ rfl; have k4 := HM.out.cell 0 _ rfl)))
    all_goals
      clear k0 k1 k4
      go_wp2_with fail
      refine (rackOf_any 49 _ k (udH f f2 n) _ (enters_of Try.func49 (by kernel_rfl) rfl) h1s hle (by have h := udC_any _ _ _ f _ _ _ f2 w.heap.size (w.heap.size + 1) Lm _ HN.out HT1.out (HRD.out.later HB.out) HN2.out HT2.out (HRD2.out.later HB.out) HK.out HL.out HM.out (by rw [HSZ.out]; exact hle); rw [HSZ.out] at h; exact h)).mono ?_
      rintro e we ⟨A3, c3, rfl, hbd, ho3⟩
      have HO3 := hide ho3
      have hlow : w.heap.size + 1 + 1 < wd.heap.size := HR.out.lt
      replace HB := hide (HB.out.trans (hbd.mono HB.out.size))
      replace HR := hide (HR.out.later hbd)
      clear hbd ho3
      have k2 := fun o => (HR.out.alloc o).cell 0 _ rfl
      have k3 := fun o => (HR.out.alloc o).frozen 0
      go_wp2_with fail
      refine bp_gen fun wf hwf => ?_
      obtain ⟨q0, hbf, hof⟩ := kend hwf (HR.out.alloc _) (by omega) (HB.out.alloc HB.out.size _) (HO3.out.later ((Below.refl _ _).alloc (Nat.le_refl _) _)) (by omega) hlow (by simp)
      clear hwf k2 k3
      exact bodyPost_ret (v := .tuple #[.agg #[.slice A3 k c3], .int .i64 0]) (by simp [results, Try.results18, go_sem, q0]) rfl ⟨_, _, rfl, hbf, hof⟩
  · have HT1 := hide hg.1.tbl
    have HT2 := hide hg.2.tbl
    have HRK1 : Hid (RkRes f true) := hide (by unfold RkRes; simp [hg.1])
    have HRK2 : Hid (RkRes f2 true) := hide (by unfold RkRes; simp [hg.2])
    have hn0 : 1 ≤ n ∧ n ≤ 12 := by have h := hg.1.tbl; rw [← HN.out]; exact ⟨h.1, h.2.1⟩
    have hq0 : 1 ≤ q ∧ q ≤ 12 := by have h := hg.2.tbl; rw [← HN2.out]; exact ⟨h.1, h.2.1⟩
    obtain ⟨sz, hsz⟩ : ∃ a, n + q = a := ⟨_, rfl⟩
    have hsq : sz ≤ 24 := by omega
    have h1s : 1 ≤ sz := by omega
    have hsi : (n : Int) + (q : Int) = (sz : Int) := by rw [← hsz]; simp
    have hwk : IntKind.i64.wrap (sz : Int) = (sz : Int) := IntWalk.i64_in _ (by omega)
    have HSZ := hide hsz
    have hgl : ¬ sz ≤ 12 := by rw [← hsz, ← HN.out, ← HN2.out]; exact hlim
    obtain rfl : k = 0 := by simpa using hk.symm
    clear hk
    clear hg hlim hsz
    go_enter Try.func18, Try.ntmps18
    go_wp2_with fail
    refine calls_gen fun wd hw0 => ?_
    have HB : Hid (Below w.heap.size w wd) := hide (by rw [hw0]; exact (((Below.refl _ _).alloc (Nat.le_refl _) _).alloc (by simp) _).alloc (by simp; omega) _)
    have HK : Hid (Blk wd w.heap.size 26 [.slice A n c]) := hide (by rw [hw0]; exact ((Blk.new _ _ _).alloc _).alloc _)
    have HL : Hid (Blk wd (w.heap.size + 1) 26 [.slice C q c2]) := hide (by rw [hw0]; have h := (Blk.new (w.alloc (Obj.cells #[.slice A n c] 26)) 26 [.slice C q c2]).alloc (Obj.cells #[.slice none 0 0] 26); simpa using h)
    have HR : Hid (Blk wd (w.heap.size + 1 + 1) 26 [.slice none 0 0]) := hide (by rw [hw0]; have h := Blk.new ((w.alloc (Obj.cells #[.slice A n c] 26)).alloc (Obj.cells #[.slice C q c2] 26)) 26 [.slice none 0 0]; simpa using h)
    clear hw0
    have hgt : (12 : Int) < (sz : Int) := by omega
    refine (isRackI _ _ _ f true _ HN.out hb HBS.out (HRD.out.later HB.out) HRK1.out).mono ?_
    rintro e wd ⟨rfl, hbd⟩
    replace HB := hide (HB.out.trans (hbd.mono HB.out.size))
    replace HK := hide (HK.out.later hbd)
    replace HL := hide (HL.out.later hbd)
    replace HR := hide (HR.out.later hbd)
    clear hbd
    have k0 := HK.out.cell 0 _ rfl
    have k1 := HL.out.cell 0 _ rfl
    go_wp2_with fail
    clear k0 k1
    refine (isRackI _ _ _ f2 true _ HN2.out hb2 HBS2.out (HRD2.out.later HB.out) HRK2.out).mono ?_
    rintro e wd ⟨rfl, hbd⟩
    replace HB := hide (HB.out.trans (hbd.mono HB.out.size))
    replace HK := hide (HK.out.later hbd)
    replace HL := hide (HL.out.later hbd)
    replace HR := hide (HR.out.later hbd)
    clear hbd
    have k0 := HK.out.cell 0 _ rfl
    have k1 := HL.out.cell 0 _ rfl
    go_wp2_with fail
    refine (ksize_any _ n _ _ (by omega)).mono ?_
    rintro e wd ⟨rfl, hbd⟩
    replace HB := hide (HB.out.trans (hbd.mono HB.out.size))
    replace HK := hide (HK.out.later hbd)
    replace HL := hide (HL.out.later hbd)
    replace HR := hide (HR.out.later hbd)
    clear hbd
    go_wp2_with fail
    refine wp_gen fun w5 hw5 => ?_
    obtain ⟨Lm, hLm⟩ : ∃ L, wd.heap.size = L := ⟨_, rfl⟩
    have hb5 : Below wd.heap.size wd w5 := by rw [hw5]; exact (Below.refl _ _).alloc (Nat.le_refl _) _
    have HM : Hid (Blk w5 Lm 2 [.int .i64 n]) := hide (by rw [hw5, ← hLm]; exact Blk.new _ _ _)
    have HLM : Hid (w.heap.size + 1 + 1 < Lm) := hide (by rw [← hLm]; exact HR.out.lt)
    replace HB := hide (HB.out.trans (hb5.mono HB.out.size))
    replace HK := hide (HK.out.later hb5)
    replace HL := hide (HL.out.later hb5)
    replace HR := hide (HR.out.later hb5)
    rw [hLm]
    clear hw5 hb5 hLm k0 k1
    have k0 := HK.out.cell 0 _ rfl
    have k1 := HL.out.cell 0 _ rfl
    have k4 := HM.out.cell 0 _ rfl
    go_region_held3 (fun w' => w'.cell? ⟨w.heap.size + 1, 0, none⟩ = some (.slice C q c2) ∧ w'.cell? ⟨Lm, 0, none⟩ = some (.int .i64 n)) (first | exact ⟨k1, k4⟩ | go_keep) (first | (go_at_call 42; go_must (refine calls_gen fun wc hwc => ?_; (first | have hbx := drew_below hwc | have hbx := eq_below hwc); replace HB := hide (HB.out.trans (hbx.mono HB.out.size)); replace HK := hide (HK.out.later hbx); replace HL := hide (HL.out.later hbx); replace HR := hide (HR.out.later hbx); replace HM := hide (HM.out.later hbx); clear hwc hbx; refine (ksize_any _ q _ _ (by omega)).mono ?_; rintro e wd ⟨rfl, hbd⟩; replace HB := hide (HB.out.trans (hbd.mono HB.out.size)); replace HK := hide (HK.out.later hbd); replace HL := hide (HL.out.later hbd); replace HR := hide (HR.out.later hbd); replace HM := hide (HM.out.later hbd); clear hbd; have k0 := HK.out.cell 0 _ rfl; have k1 := HL.out.cell 0 _ rfl; have k4 := HM.out.cell 0 _ rfl)))
    all_goals
      clear k0 k1 k4
      have k2 := HR.out.cell 0 _ rfl
      have k3 := HR.out.frozen 0
      go_wp2_with fail
      refine bp_gen fun wf hwf => ?_
      have HRF : Blk wf (w.heap.size + 1 + 1) 26 [.slice none 0 0] := by rw [hwf]; first | exact HR.out | exact HR.out.set 0 _
      have hbf : Below w.heap.size w wf := by rw [hwf]; first | exact HB.out | exact HB.out.setCell (p := ⟨w.heap.size + 1 + 1, 0, none⟩) (by show w.heap.size ≤ w.heap.size + 1 + 1; omega) _
      have q0 := HRF.cell 0 _ rfl
      clear hwf k2 k3
      exact bodyPost_ret (v := .tuple #[.agg #[.slice none 0 0], .int .i64 3]) (by simp [results, Try.results18, go_sem, q0]) rfl ⟨_, _, rfl, hbf, .inl ⟨rfl, rfl⟩⟩
  · by_cases h1 : Rck f
    · have h2 : ¬ Rck f2 := fun h => hg ⟨h1, h⟩
      have HRK1 : Hid (RkRes f true) := hide (by unfold RkRes; simp [h1])
      have HRK2 : Hid (RkRes f2 false) := hide (by unfold RkRes; simp [h2])
      obtain rfl : k = 0 := by simpa using hk.symm
      clear hk
      clear hg h1 h2
      go_enter Try.func18, Try.ntmps18
      go_wp2_with fail
      refine calls_gen fun wd hw0 => ?_
      have HB : Hid (Below w.heap.size w wd) := hide (by rw [hw0]; exact (((Below.refl _ _).alloc (Nat.le_refl _) _).alloc (by simp) _).alloc (by simp; omega) _)
      have HK : Hid (Blk wd w.heap.size 26 [.slice A n c]) := hide (by rw [hw0]; exact ((Blk.new _ _ _).alloc _).alloc _)
      have HL : Hid (Blk wd (w.heap.size + 1) 26 [.slice C q c2]) := hide (by rw [hw0]; have h := (Blk.new (w.alloc (Obj.cells #[.slice A n c] 26)) 26 [.slice C q c2]).alloc (Obj.cells #[.slice none 0 0] 26); simpa using h)
      have HR : Hid (Blk wd (w.heap.size + 1 + 1) 26 [.slice none 0 0]) := hide (by rw [hw0]; have h := Blk.new ((w.alloc (Obj.cells #[.slice A n c] 26)).alloc (Obj.cells #[.slice C q c2] 26)) 26 [.slice none 0 0]; simpa using h)
      clear hw0
      refine (isRackI _ _ _ f true _ HN.out hb HBS.out (HRD.out.later HB.out) HRK1.out).mono ?_
      rintro e wd ⟨rfl, hbd⟩
      replace HB := hide (HB.out.trans (hbd.mono HB.out.size))
      replace HK := hide (HK.out.later hbd)
      replace HL := hide (HL.out.later hbd)
      replace HR := hide (HR.out.later hbd)
      clear hbd
      have k0 := HK.out.cell 0 _ rfl
      have k1 := HL.out.cell 0 _ rfl
      go_wp2_with fail
      clear k0 k1
      refine (isRackI _ _ _ f2 false _ HN2.out hb2 HBS2.out (HRD2.out.later HB.out) HRK2.out).mono ?_
      rintro e wd ⟨rfl, hbd⟩
      replace HB := hide (HB.out.trans (hbd.mono HB.out.size))
      replace HK := hide (HK.out.later hbd)
      replace HL := hide (HL.out.later hbd)
      replace HR := hide (HR.out.later hbd)
      clear hbd
      have k2 := HR.out.cell 0 _ rfl
      have k3 := HR.out.frozen 0
      go_wp2_with fail
      refine bp_gen fun wf hwf => ?_
      have HRF : Blk wf (w.heap.size + 1 + 1) 26 [.slice none 0 0] := by rw [hwf]; first | exact HR.out | exact HR.out.set 0 _
      have hbf : Below w.heap.size w wf := by rw [hwf]; first | exact HB.out | exact HB.out.setCell (p := ⟨w.heap.size + 1 + 1, 0, none⟩) (by show w.heap.size ≤ w.heap.size + 1 + 1; omega) _
      have q0 := HRF.cell 0 _ rfl
      clear hwf k2 k3
      exact bodyPost_ret (v := .tuple #[.agg #[.slice none 0 0], .int .i64 1]) (by simp [results, Try.results18, go_sem, q0]) rfl ⟨_, _, rfl, hbf, .inl ⟨rfl, rfl⟩⟩
    · have HRK1 : Hid (RkRes f false) := hide (by unfold RkRes; simp [h1])
      obtain rfl : k = 0 := by simpa using hk.symm
      clear hk
      clear hg h1
      go_enter Try.func18, Try.ntmps18
      go_wp2_with fail
      refine calls_gen fun wd hw0 => ?_
      have HB : Hid (Below w.heap.size w wd) := hide (by rw [hw0]; exact (((Below.refl _ _).alloc (Nat.le_refl _) _).alloc (by simp) _).alloc (by simp; omega) _)
      have HK : Hid (Blk wd w.heap.size 26 [.slice A n c]) := hide (by rw [hw0]; exact ((Blk.new _ _ _).alloc _).alloc _)
      have HL : Hid (Blk wd (w.heap.size + 1) 26 [.slice C q c2]) := hide (by rw [hw0]; have h := (Blk.new (w.alloc (Obj.cells #[.slice A n c] 26)) 26 [.slice C q c2]).alloc (Obj.cells #[.slice none 0 0] 26); simpa using h)
      have HR : Hid (Blk wd (w.heap.size + 1 + 1) 26 [.slice none 0 0]) := hide (by rw [hw0]; have h := Blk.new ((w.alloc (Obj.cells #[.slice A n c] 26)).alloc (Obj.cells #[.slice C q c2] 26)) 26 [.slice none 0 0]; simpa using h)
      clear hw0
      refine (isRackI _ _ _ f false _ HN.out hb HBS.out (HRD.out.later HB.out) HRK1.out).mono ?_
      rintro e wd ⟨rfl, hbd⟩
      replace HB := hide (HB.out.trans (hbd.mono HB.out.size))
      replace HK := hide (HK.out.later hbd)
      replace HL := hide (HL.out.later hbd)
      replace HR := hide (HR.out.later hbd)
      clear hbd
      have k2 := HR.out.cell 0 _ rfl
      have k3 := HR.out.frozen 0
      go_wp2_with fail
      refine bp_gen fun wf hwf => ?_
      have HRF : Blk wf (w.heap.size + 1 + 1) 26 [.slice none 0 0] := by rw [hwf]; first | exact HR.out | exact HR.out.set 0 _
      have hbf : Below w.heap.size w wf := by rw [hwf]; first | exact HB.out | exact HB.out.setCell (p := ⟨w.heap.size + 1 + 1, 0, none⟩) (by show w.heap.size ≤ w.heap.size + 1 + 1; omega) _
      have q0 := HRF.cell 0 _ rfl
      clear hwf k2 k3
      exact bodyPost_ret (v := .tuple #[.agg #[.slice none 0 0], .int .i64 1]) (by simp [results, Try.results18, go_sem, q0]) rfl ⟨_, _, rfl, hbf, .inl ⟨rfl, rfl⟩⟩

end Go.Proofs.Ytljdfanebjhhmaa
