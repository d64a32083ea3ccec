import Derived.Test.YtngfdkmiifpbgaaZz
import Derived.Test.YtngfdkmiifpbgaaZn
import Derived.Test.YtngfdkmiifpbgaaZo
import Derived.Test.YtngfdkmiifpbgaaZs
import Derived.Test.YtngfdkmiifpbgaaZu
import Derived.Test.YtngfdkmiifpbgaaZp
namespace Go.Proofs.Ytngfdkmiifpbgaa
open Go Go.RowKit
set_option maxHeartbeats 4000000

set_option maxRecDepth 100000 in
theorem opgI (A : Option Addr) (n c : Nat) (f : List (List Int)) (zs : List (List Int)) (code : Int) (k : Nat) (w : World) (hn : f.length = n) (hb : n ≤ 1048576) (hbs : ∀ i, i < f.length → (f.getD i []).length ≤ 1048576) (hr : Rd2 w A f) (hres : OpRes f zs code) (hk : zs.length = k) :
    Calls Try.prog 28 #[.agg #[.slice A n c]] w (fun e w' => ∃ A' c', e = .returned (.tuple #[.agg #[.slice A' k c'], .int .i64 code]) ∧ Below w.heap.size w w' ∧ Obj2 42 2 w.heap.size w'.heap.size w' A' zs) := by
  have HN := hide hn
  have HRD := hide hr
  have HB0 := hide (((Below.refl _ w).alloc (Nat.le_refl _) (Obj.cells #[Value.slice A n c] 27)).alloc (by simp) (Obj.cells #[.slice none 0 0] 27))
  have HK0 := hide ((Blk.new w 27 [.slice A n c]).alloc (Obj.cells #[.slice none 0 0] 27))
  have HR0 : Hid (Blk ((w.alloc (Obj.cells #[Value.slice A n c] 27)).alloc (Obj.cells #[.slice none 0 0] 27)) (w.heap.size + 1) 27 [.slice none 0 0]) := hide (by have h := Blk.new (w.alloc (Obj.cells #[Value.slice A n c] 27)) 27 [.slice none 0 0]; simpa using h)
  have HBS := hide hbs

  rcases hres with ⟨hg, rfl, rfl⟩ | ⟨hg, rfl, rfl⟩
  · have hkn : n = k := by rw [← hk, turnL_length, hn]
    subst hkn
    clear hk
    have HRL : Hid (∀ i, i < f.length → (f.getD i []).length = n) := hide fun i hi => by rw [hg.tbl.rows i hi]; exact hn
    have HG := hide hg
    have HTB := hide hg.tbl
    have h1 : 1 ≤ n := (hg.pos HN.out).1
    have h12 : n ≤ 12 := (hg.pos HN.out).2
    clear hg hn hr hbs
    go_enter Try.func28, Try.ntmps28
    have k0 := HK0.out.cell 0 _ rfl
    go_wp2_with fail
    clear k0
    refine (isGrp_any _ _ _ f true _ HN.out hb HBS.out (HRD.out.later HB0.out) ⟨fun _ => HG.out, fun _ => rfl⟩).mono ?_
    rintro e w1 ⟨rfl, hb1⟩
    have HB1 := hide (HB0.out.trans (hb1.mono HB0.out.size))
    have HK1 := hide (HK0.out.later hb1)
    have HR1 := hide (HR0.out.later hb1)
    clear hb1
    have k0 := HK1.out.cell 0 _ rfl
    go_wp2_with fail
    clear k0
    refine (turnI_any _ _ _ f _ HN.out hb HRL.out (HRD.out.later HB1.out)).mono ?_
    rintro e w3 ⟨A3, c3, rfl, hb1, ho1⟩
    have HO := hide ho1
    have HB3 := hide (HB1.out.trans (hb1.mono HB1.out.size))
    have HK3 := hide (HK1.out.later hb1)
    have HR3 := hide (HR1.out.later hb1)
    clear hb1
    clear ho1
    have hlow : w.heap.size + 1 < w1.heap.size := HR1.out.lt
    have k2 := HR3.out.cell 0 _ rfl
    have k3 := HR3.out.frozen 0
    go_wp2_with fail
    refine bp_gen fun wf hwf => ?_
    obtain ⟨q0, hbf, hof⟩ := kend hwf HR3.out (by omega) HB3.out HO.out (by omega) hlow (Nat.le_refl _)
    clear hwf k2 k3
    exact bodyPost_ret (v := .tuple #[.agg #[.slice A3 n c3], .int .i64 0]) (by simp [results, Try.results28, go_sem, q0]) rfl ⟨_, _, rfl, hbf, hof⟩
  · have hk0 : k = 0 := by rw [← hk]; rfl
    subst hk0
    clear hk
    have HG := hide hg
    clear hg hn hr hbs
    go_enter Try.func28, Try.ntmps28
    have k0 := HK0.out.cell 0 _ rfl
    go_wp2_with fail
    clear k0
    refine (isGrp_any _ _ _ f false _ HN.out hb HBS.out (HRD.out.later HB0.out) ⟨fun h => (by cases h), fun h => absurd h HG.out⟩).mono ?_
    rintro e w1 ⟨rfl, hb1⟩
    have HB1 := hide (HB0.out.trans (hb1.mono HB0.out.size))
    have HK1 := hide (HK0.out.later hb1)
    have HR1 := hide (HR0.out.later hb1)
    clear hb1
    have k2 := HR1.out.cell 0 _ rfl
    have k3 := HR1.out.frozen 0
    go_wp2_with fail
    refine bp_gen fun wf hwf => ?_
    have HRF : Blk wf (w.heap.size + 1) 27 [.slice none 0 0] := by rw [hwf]; first | exact HR1.out | exact HR1.out.set 0 _
    have hbf : Below w.heap.size w wf := by rw [hwf]; first | exact HB1.out | exact HB1.out.setCell (p := ⟨w.heap.size + 1, 0, none⟩) (Nat.le_succ _) _
    have q0 := HRF.cell 0 _ rfl
    clear hwf k2 k3
    exact bodyPost_ret (v := .tuple #[.agg #[.slice none 0 0], .int .i64 1]) (by simp [results, Try.results28, go_sem, q0]) rfl ⟨_, _, rfl, hbf, .inl ⟨rfl, rfl⟩⟩

set_option maxRecDepth 100000 in
theorem opgS (A : Option Addr) (n c : Nat) (f : List (List Int)) (zs : List (List Int)) (code : Int) (k : Nat) (w : World) (hn : f.length = n) (hb : n ≤ 1048576) (hbs : ∀ i, i < f.length → (f.getD i []).length ≤ 1048576) (hr : Rd2 w A f) (hres : OpRes f zs code) (hk : zs.length = k) :
    Calls Try.prog 27 #[.agg #[.slice A n c]] w (fun e w' => ∃ A' c', e = .returned (.tuple #[.agg #[.slice A' k c'], .int .i64 code]) ∧ Below w.heap.size w w' ∧ Obj2 42 2 w.heap.size w'.heap.size w' A' zs) := by
  have HN := hide hn
  have HRD := hide hr
  have HB0 := hide (((Below.refl _ w).alloc (Nat.le_refl _) (Obj.cells #[Value.slice A n c] 27)).alloc (by simp) (Obj.cells #[.slice none 0 0] 27))
  have HK0 := hide ((Blk.new w 27 [.slice A n c]).alloc (Obj.cells #[.slice none 0 0] 27))
  have HR0 : Hid (Blk ((w.alloc (Obj.cells #[Value.slice A n c] 27)).alloc (Obj.cells #[.slice none 0 0] 27)) (w.heap.size + 1) 27 [.slice none 0 0]) := hide (by have h := Blk.new (w.alloc (Obj.cells #[Value.slice A n c] 27)) 27 [.slice none 0 0]; simpa using h)
  have HBS := hide hbs

  rcases hres with ⟨hg, rfl, rfl⟩ | ⟨hg, rfl, rfl⟩
  · have hkn : n = k := by rw [← hk, turnL_length, hn]
    subst hkn
    clear hk
    have HRL : Hid (∀ i, i < f.length → (f.getD i []).length = n) := hide fun i hi => by rw [hg.tbl.rows i hi]; exact hn
    have HG := hide hg
    have HTB := hide hg.tbl
    have h1 : 1 ≤ n := (hg.pos HN.out).1
    have h12 : n ≤ 12 := (hg.pos HN.out).2
    clear hg hn hr hbs
    go_enter Try.func27, Try.ntmps27
    have k0 := HK0.out.cell 0 _ rfl
    go_wp2_with fail
    clear k0
    refine (gq_below (isGrpS_any _ _ _ f true _ HN.out hb HBS.out (HRD.out.later HB0.out) ⟨fun _ => HG.out, fun _ => rfl⟩)).mono ?_
    rintro e w1 ⟨rfl, hb1⟩
    have HB1 := hide (HB0.out.trans (hb1.mono HB0.out.size))
    have HK1 := hide (HK0.out.later hb1)
    have HR1 := hide (HR0.out.later hb1)
    clear hb1
    have k0 := HK1.out.cell 0 _ rfl
    go_wp2_with fail
    clear k0
    refine (l01Turn_any _ _ _ f _ HN.out hb HRL.out (HRD.out.later HB1.out)).mono ?_
    rintro e w3 ⟨A3, c3, rfl, hb1, ho1⟩
    have HO := hide ho1
    have HB3 := hide (HB1.out.trans (hb1.mono HB1.out.size))
    have HK3 := hide (HK1.out.later hb1)
    have HR3 := hide (HR1.out.later hb1)
    clear hb1
    clear ho1
    have hlow : w.heap.size + 1 < w1.heap.size := HR1.out.lt
    have k2 := HR3.out.cell 0 _ rfl
    have k3 := HR3.out.frozen 0
    go_wp2_with fail
    refine bp_gen fun wf hwf => ?_
    obtain ⟨q0, hbf, hof⟩ := kend hwf HR3.out (by omega) HB3.out HO.out (by omega) hlow (Nat.le_refl _)
    clear hwf k2 k3
    exact bodyPost_ret (v := .tuple #[.agg #[.slice A3 n c3], .int .i64 0]) (by simp [results, Try.results27, go_sem, q0]) rfl ⟨_, _, rfl, hbf, hof⟩
  · have hk0 : k = 0 := by rw [← hk]; rfl
    subst hk0
    clear hk
    have HG := hide hg
    clear hg hn hr hbs
    go_enter Try.func27, Try.ntmps27
    have k0 := HK0.out.cell 0 _ rfl
    go_wp2_with fail
    clear k0
    refine (gq_below (isGrpS_any _ _ _ f false _ HN.out hb HBS.out (HRD.out.later HB0.out) ⟨fun h => (by cases h), fun h => absurd h HG.out⟩)).mono ?_
    rintro e w1 ⟨rfl, hb1⟩
    have HB1 := hide (HB0.out.trans (hb1.mono HB0.out.size))
    have HK1 := hide (HK0.out.later hb1)
    have HR1 := hide (HR0.out.later hb1)
    clear hb1
    have k2 := HR1.out.cell 0 _ rfl
    have k3 := HR1.out.frozen 0
    go_wp2_with fail
    refine bp_gen fun wf hwf => ?_
    have HRF : Blk wf (w.heap.size + 1) 27 [.slice none 0 0] := by rw [hwf]; first | exact HR1.out | exact HR1.out.set 0 _
    have hbf : Below w.heap.size w wf := by rw [hwf]; first | exact HB1.out | exact HB1.out.setCell (p := ⟨w.heap.size + 1, 0, none⟩) (Nat.le_succ _) _
    have q0 := HRF.cell 0 _ rfl
    clear hwf k2 k3
    exact bodyPost_ret (v := .tuple #[.agg #[.slice none 0 0], .int .i64 1]) (by simp [results, Try.results27, go_sem, q0]) rfl ⟨_, _, rfl, hbf, .inl ⟨rfl, rfl⟩⟩

end Go.Proofs.Ytngfdkmiifpbgaa
