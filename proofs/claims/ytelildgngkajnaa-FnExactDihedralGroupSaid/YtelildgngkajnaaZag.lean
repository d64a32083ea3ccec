import Derived.Test.YtelildgngkajnaaZaf
import Derived.Test.YtelildgngkajnaaZad
import Derived.Test.YtelildgngkajnaaZb
namespace Go.Proofs.Ytelildgngkajnaa
open Go Go.RowKit
set_option maxHeartbeats 4000000
set_option maxRecDepth 100000 in
theorem dicI_any (n : Nat) (w : World) (h1 : 2 ≤ n) (h6 : n ≤ 3) :
    Calls Try.prog 58 #[.int .i64 (n : Nat)] w fun e w' => ∃ A' c', e = .returned (.agg #[.slice A' (2 * (2 * n)) c']) ∧ Below w.heap.size w w' ∧ Obj2 48 2 w.heap.size w'.heap.size w' A' (grid (2 * (2 * n)) (fun i k => (moH (2 * n) n i k : Nat))) := by
  have HB0 := hide ((Below.refl _ w).alloc (Nat.le_refl _) (Obj.cells #[.slice none 0 0] 24))
  have HK0 := hide (Blk.new w 24 [.slice none 0 0])
  obtain ⟨M, hM⟩ : ∃ M, 2 * n = M := ⟨_, rfl⟩
  have hMz : 2 * (n : Int) = (M : Int) := by omega
  rw [hM]
  have HMM := hide hM
  have hM6 : M ≤ 6 := by omega
  have hM1 : 1 ≤ M := by omega
  clear hM
  go_enter Try.func58, Try.ntmps58
  go_wp2_with fail
  refine (moGrp_any M n _ hM1 hM6 (by omega)).mono ?_
  rintro e w1 ⟨g, c, bm, bs, rfl, hb1, hp, hm, hs⟩
  have HB1 := hide (HB0.out.trans (hb1.mono HB0.out.size))
  have HK1 := hide (HK0.out.later hb1)
  have HP := hide hp
  have HM := hide hm
  have HS := hide hs
  clear hb1 hp hm hs hMz
  go_wp2_with fail
  refine (grpM_any 133 _ g (2 * M) c (fun i => i % M) (fun i => decide (M ≤ i)) (moH M n) _ (fun _ _ => rfl) (by omega) (by omega) (fun i k _ _ => moH_lt hM1) (fun i j hj hij => mo_ne hM1 hj hij) HP.out (moMul_any M n bm bs _ hM1 (by omega) (by omega) HM.out HS.out)).mono ?_
  rintro e w3 ⟨A3, c3, rfl, hb3, ho3⟩
  have HB3 := hide (HB1.out.trans (hb3.mono HB1.out.size))
  have HK3 := hide (HK1.out.later hb3)
  have HO3 := hide ho3
  have hlow := HK1.out.lt
  clear hb3 ho3
  have k2 := HK3.out.cell 0 _ rfl
  have k3 := HK3.out.frozen 0
  go_wp2_with fail
  refine bp_gen fun wf hwf => ?_
  obtain ⟨q0, hbf, hof⟩ := kend hwf HK3.out (by omega) HB3.out HO3.out (by omega) hlow (Nat.le_refl _)
  clear hwf k2 k3
  exact bodyPost_ret (v := .agg #[.slice A3 (2 * M) c3]) (by simp [results, Try.results58, go_sem, q0]) rfl ⟨_, _, rfl, hbf, hof⟩
set_option maxRecDepth 100000 in
theorem dhgI (x : Int) (zs : List (List Int)) (code : Int) (k : Nat) (w : World) (hlo : -9223372036854775808 ≤ x) (hhi : x ≤ 9223372036854775807) (hres : DhgRes x zs code) (hk : zs.length = k) :
    Calls Try.prog 14 #[.int .i64 x] w (fun e w' => ∃ A' c', e = .returned (.tuple #[.agg #[.slice A' k c'], .int .i64 code]) ∧ Below w.heap.size w w' ∧ Obj2 48 2 w.heap.size w'.heap.size w' A' zs) := by
  rcases hres with ⟨hg, rfl, rfl⟩ | ⟨hg, rfl, rfl⟩
  · obtain ⟨n, rfl⟩ : ∃ n : Nat, x = (n : Int) := ⟨x.toNat, by omega⟩
    have h1 : 1 ≤ n := by omega
    have h6 : n ≤ 6 := by omega
    simp only [Int.toNat_natCast] at hk ⊢
    have hkn : 2 * n = k := by rw [← hk, grid_length]
    subst hkn
    clear hk hg
    have HB0 := hide ((Below.refl _ w).alloc (Nat.le_refl _) (Obj.cells #[.slice none 0 0] 24))
    have HK0 := hide (Blk.new w 24 [.slice none 0 0])
    go_enter Try.func14, Try.ntmps14
    have HB1 := HB0
    have HK1 := HK0
    clear HB0 HK0
    skip
    go_wp2_with fail
    refine (dihI_any n _ h1 h6).mono ?_
    rintro e w3 ⟨A3, c3, rfl, hb3, ho3⟩
    have HB3 := hide (HB1.out.trans (hb3.mono HB1.out.size))
    have HK3 := hide (HK1.out.later hb3)
    have HO3 := hide ho3
    have hlow := HK1.out.lt
    clear hb3 ho3
    have k2 := HK3.out.cell 0 _ rfl
    have k3 := HK3.out.frozen 0
    go_wp2_with fail
    refine bp_gen fun wf hwf => ?_
    obtain ⟨q0, hbf, hof⟩ := kend hwf HK3.out (Nat.le_refl _) HB3.out HO3.out (by omega) hlow (Nat.le_refl _)
    clear hwf k2 k3
    exact bodyPost_ret (v := .tuple #[.agg #[.slice A3 (2 * n) c3], .int .i64 0]) (by simp [results, Try.results14, go_sem, q0]) rfl ⟨_, _, rfl, hbf, hof⟩
  · have hk0 : k = 0 := by rw [← hk]; rfl
    subst hk0
    clear hk
    by_cases hx : x < 1
    · have HB0 := hide ((Below.refl _ w).alloc (Nat.le_refl _) (Obj.cells #[.slice none 0 0] 24))
      have HK0 := hide (Blk.new w 24 [.slice none 0 0])
      go_enter Try.func14, Try.ntmps14
      have HB1 := HB0
      have HK1 := HK0
      clear HB0 HK0
      have k2 := HK1.out.cell 0 _ rfl
      have k3 := HK1.out.frozen 0
      go_wp2_with fail
      refine bp_gen fun wf hwf => ?_
      have HRF : Blk wf w.heap.size 24 [.slice none 0 0] := by rw [hwf]; first | exact HK1.out | exact HK1.out.set 0 _
      have hbf : Below w.heap.size w wf := by rw [hwf]; first | exact HB1.out | exact HB1.out.setCell (p := ⟨w.heap.size, 0, none⟩) (Nat.le_refl _) _
      have q0 := HRF.cell 0 _ rfl
      clear hwf k2 k3
      first
        | exact bodyPost_ret (v := .tuple #[.agg #[.slice none 0 0], .int .i64 2]) (by simp [results, Try.results14, go_sem, q0]) rfl ⟨_, _, rfl, hbf, .inl ⟨rfl, rfl⟩⟩
        | exact bodyPost_ret (v := .tuple #[.agg #[.slice none 0 0], .int .i64 2]) (by simp [results, Try.results14, go_sem, q0]) rfl ⟨_, ⟨_, rfl⟩, hbf, .inl ⟨rfl, rfl⟩⟩
    · have hx2 : 1 ≤ x := by omega
      have hx3 : 6 < x := by omega
      clear hg
      have HB0 := hide ((Below.refl _ w).alloc (Nat.le_refl _) (Obj.cells #[.slice none 0 0] 24))
      have HK0 := hide (Blk.new w 24 [.slice none 0 0])
      go_enter Try.func14, Try.ntmps14
      have HB1 := HB0
      have HK1 := HK0
      clear HB0 HK0
      have k2 := HK1.out.cell 0 _ rfl
      have k3 := HK1.out.frozen 0
      go_wp2_with fail
      refine bp_gen fun wf hwf => ?_
      have HRF : Blk wf w.heap.size 24 [.slice none 0 0] := by rw [hwf]; first | exact HK1.out | exact HK1.out.set 0 _
      have hbf : Below w.heap.size w wf := by rw [hwf]; first | exact HB1.out | exact HB1.out.setCell (p := ⟨w.heap.size, 0, none⟩) (Nat.le_refl _) _
      have q0 := HRF.cell 0 _ rfl
      clear hwf k2 k3
      first
        | exact bodyPost_ret (v := .tuple #[.agg #[.slice none 0 0], .int .i64 2]) (by simp [results, Try.results14, go_sem, q0]) rfl ⟨_, _, rfl, hbf, .inl ⟨rfl, rfl⟩⟩
        | exact bodyPost_ret (v := .tuple #[.agg #[.slice none 0 0], .int .i64 2]) (by simp [results, Try.results14, go_sem, q0]) rfl ⟨_, ⟨_, rfl⟩, hbf, .inl ⟨rfl, rfl⟩⟩
set_option maxRecDepth 100000 in
theorem dhgS (x : Int) (zs : List (List Int)) (code : Int) (k : Nat) (w : World) (hlo : -9223372036854775808 ≤ x) (hhi : x ≤ 9223372036854775807) (hres : DhgRes x zs code) (hk : zs.length = k) :
    Calls Try.prog 13 #[.int .i64 x] w (fun e w' => ∃ A' c', e = .returned (.tuple #[.agg #[.slice A' k c'], .int .i64 code]) ∧ Below w.heap.size w w' ∧ Obj2 48 2 w.heap.size w'.heap.size w' A' zs) := by
  rcases hres with ⟨hg, rfl, rfl⟩ | ⟨hg, rfl, rfl⟩
  · obtain ⟨n, rfl⟩ : ∃ n : Nat, x = (n : Int) := ⟨x.toNat, by omega⟩
    have h1 : 1 ≤ n := by omega
    have h6 : n ≤ 6 := by omega
    simp only [Int.toNat_natCast] at hk ⊢
    have hkn : 2 * n = k := by rw [← hk, grid_length]
    subst hkn
    clear hk hg
    have HB0 := hide ((Below.refl _ w).alloc (Nat.le_refl _) (Obj.cells #[.slice none 0 0] 24))
    have HK0 := hide (Blk.new w 24 [.slice none 0 0])
    go_enter Try.func13, Try.ntmps13
    go_wp2_with fail
    refine (in_any _ 1 6 true _ (by simp; omega)).mono ?_
    rintro e w1 ⟨rfl, hq1⟩
    have HB1 := hide (HB0.out.trans (hq1.below _))
    have HK1 := hide (HK0.out.later (hq1.below _))
    clear hq1 HB0 HK0
    skip
    go_wp2_with fail
    refine (dblS_any n 0 _ h1 h6 (by omega)).mono ?_
    rintro e w3 ⟨A3, c3, rfl, hb3, ho3⟩
    have HB3 := hide (HB1.out.trans (hb3.mono HB1.out.size))
    have HK3 := hide (HK1.out.later hb3)
    have HO3 := hide ho3
    have hlow := HK1.out.lt
    clear hb3 ho3
    have k2 := HK3.out.cell 0 _ rfl
    have k3 := HK3.out.frozen 0
    go_wp2_with fail
    refine bp_gen fun wf hwf => ?_
    obtain ⟨q0, hbf, hof⟩ := kend hwf HK3.out (Nat.le_refl _) HB3.out HO3.out (by omega) hlow (Nat.le_refl _)
    clear hwf k2 k3
    exact bodyPost_ret (v := .tuple #[.agg #[.slice A3 (2 * n) c3], .int .i64 0]) (by simp [results, Try.results13, go_sem, q0]) rfl ⟨_, _, rfl, hbf, hof⟩
  · have hk0 : k = 0 := by rw [← hk]; rfl
    subst hk0
    clear hk
    have HB0 := hide ((Below.refl _ w).alloc (Nat.le_refl _) (Obj.cells #[.slice none 0 0] 24))
    have HK0 := hide (Blk.new w 24 [.slice none 0 0])
    go_enter Try.func13, Try.ntmps13
    go_wp2_with fail
    refine (in_any _ 1 6 false _ (by simp; omega)).mono ?_
    rintro e w1 ⟨rfl, hq1⟩
    have HB1 := hide (HB0.out.trans (hq1.below _))
    have HK1 := hide (HK0.out.later (hq1.below _))
    clear hq1 HB0 HK0
    have k2 := HK1.out.cell 0 _ rfl
    have k3 := HK1.out.frozen 0
    go_wp2_with fail
    refine bp_gen fun wf hwf => ?_
    have HRF : Blk wf w.heap.size 24 [.slice none 0 0] := by rw [hwf]; first | exact HK1.out | exact HK1.out.set 0 _
    have hbf : Below w.heap.size w wf := by rw [hwf]; first | exact HB1.out | exact HB1.out.setCell (p := ⟨w.heap.size, 0, none⟩) (Nat.le_refl _) _
    have q0 := HRF.cell 0 _ rfl
    clear hwf k2 k3
    first
      | exact bodyPost_ret (v := .tuple #[.agg #[.slice none 0 0], .int .i64 2]) (by simp [results, Try.results13, go_sem, q0]) rfl ⟨_, _, rfl, hbf, .inl ⟨rfl, rfl⟩⟩
      | exact bodyPost_ret (v := .tuple #[.agg #[.slice none 0 0], .int .i64 2]) (by simp [results, Try.results13, go_sem, q0]) rfl ⟨_, ⟨_, rfl⟩, hbf, .inl ⟨rfl, rfl⟩⟩
set_option maxRecDepth 100000 in
theorem dcgI (x : Int) (zs : List (List Int)) (code : Int) (k : Nat) (w : World) (hlo : -9223372036854775808 ≤ x) (hhi : x ≤ 9223372036854775807) (hres : DcgRes x zs code) (hk : zs.length = k) :
    Calls Try.prog 19 #[.int .i64 x] w (fun e w' => ∃ A' c', e = .returned (.tuple #[.agg #[.slice A' k c'], .int .i64 code]) ∧ Below w.heap.size w w' ∧ Obj2 48 2 w.heap.size w'.heap.size w' A' zs) := by
  rcases hres with ⟨hg, rfl, rfl⟩ | ⟨hg, rfl, rfl⟩
  · obtain ⟨n, rfl⟩ : ∃ n : Nat, x = (n : Int) := ⟨x.toNat, by omega⟩
    have h1 : 2 ≤ n := by omega
    have h6 : n ≤ 3 := by omega
    simp only [Int.toNat_natCast] at hk ⊢
    have hkn : 2 * (2 * n) = k := by rw [← hk, grid_length]
    subst hkn
    clear hk hg
    have HB0 := hide ((Below.refl _ w).alloc (Nat.le_refl _) (Obj.cells #[.slice none 0 0] 24))
    have HK0 := hide (Blk.new w 24 [.slice none 0 0])
    go_enter Try.func19, Try.ntmps19
    have HB1 := HB0
    have HK1 := HK0
    clear HB0 HK0
    skip
    go_wp2_with fail
    refine (dicI_any n _ h1 h6).mono ?_
    rintro e w3 ⟨A3, c3, rfl, hb3, ho3⟩
    have HB3 := hide (HB1.out.trans (hb3.mono HB1.out.size))
    have HK3 := hide (HK1.out.later hb3)
    have HO3 := hide ho3
    have hlow := HK1.out.lt
    clear hb3 ho3
    have k2 := HK3.out.cell 0 _ rfl
    have k3 := HK3.out.frozen 0
    go_wp2_with fail
    refine bp_gen fun wf hwf => ?_
    obtain ⟨q0, hbf, hof⟩ := kend hwf HK3.out (Nat.le_refl _) HB3.out HO3.out (by omega) hlow (Nat.le_refl _)
    clear hwf k2 k3
    exact bodyPost_ret (v := .tuple #[.agg #[.slice A3 (2 * (2 * n)) c3], .int .i64 0]) (by simp [results, Try.results19, go_sem, q0]) rfl ⟨_, _, rfl, hbf, hof⟩
  · have hk0 : k = 0 := by rw [← hk]; rfl
    subst hk0
    clear hk
    by_cases hx : x < 2
    · have HB0 := hide ((Below.refl _ w).alloc (Nat.le_refl _) (Obj.cells #[.slice none 0 0] 24))
      have HK0 := hide (Blk.new w 24 [.slice none 0 0])
      go_enter Try.func19, Try.ntmps19
      have HB1 := HB0
      have HK1 := HK0
      clear HB0 HK0
      have k2 := HK1.out.cell 0 _ rfl
      have k3 := HK1.out.frozen 0
      go_wp2_with fail
      refine bp_gen fun wf hwf => ?_
      have HRF : Blk wf w.heap.size 24 [.slice none 0 0] := by rw [hwf]; first | exact HK1.out | exact HK1.out.set 0 _
      have hbf : Below w.heap.size w wf := by rw [hwf]; first | exact HB1.out | exact HB1.out.setCell (p := ⟨w.heap.size, 0, none⟩) (Nat.le_refl _) _
      have q0 := HRF.cell 0 _ rfl
      clear hwf k2 k3
      first
        | exact bodyPost_ret (v := .tuple #[.agg #[.slice none 0 0], .int .i64 2]) (by simp [results, Try.results19, go_sem, q0]) rfl ⟨_, _, rfl, hbf, .inl ⟨rfl, rfl⟩⟩
        | exact bodyPost_ret (v := .tuple #[.agg #[.slice none 0 0], .int .i64 2]) (by simp [results, Try.results19, go_sem, q0]) rfl ⟨_, ⟨_, rfl⟩, hbf, .inl ⟨rfl, rfl⟩⟩
    · have hx2 : 2 ≤ x := by omega
      have hx3 : 3 < x := by omega
      clear hg
      have HB0 := hide ((Below.refl _ w).alloc (Nat.le_refl _) (Obj.cells #[.slice none 0 0] 24))
      have HK0 := hide (Blk.new w 24 [.slice none 0 0])
      go_enter Try.func19, Try.ntmps19
      have HB1 := HB0
      have HK1 := HK0
      clear HB0 HK0
      have k2 := HK1.out.cell 0 _ rfl
      have k3 := HK1.out.frozen 0
      go_wp2_with fail
      refine bp_gen fun wf hwf => ?_
      have HRF : Blk wf w.heap.size 24 [.slice none 0 0] := by rw [hwf]; first | exact HK1.out | exact HK1.out.set 0 _
      have hbf : Below w.heap.size w wf := by rw [hwf]; first | exact HB1.out | exact HB1.out.setCell (p := ⟨w.heap.size, 0, none⟩) (Nat.le_refl _) _
      have q0 := HRF.cell 0 _ rfl
      clear hwf k2 k3
      first
        | exact bodyPost_ret (v := .tuple #[.agg #[.slice none 0 0], .int .i64 2]) (by simp [results, Try.results19, go_sem, q0]) rfl ⟨_, _, rfl, hbf, .inl ⟨rfl, rfl⟩⟩
        | exact bodyPost_ret (v := .tuple #[.agg #[.slice none 0 0], .int .i64 2]) (by simp [results, Try.results19, go_sem, q0]) rfl ⟨_, ⟨_, rfl⟩, hbf, .inl ⟨rfl, rfl⟩⟩
set_option maxRecDepth 100000 in
theorem dcgS (x : Int) (zs : List (List Int)) (code : Int) (k : Nat) (w : World) (hlo : -9223372036854775808 ≤ x) (hhi : x ≤ 9223372036854775807) (hres : DcgRes x zs code) (hk : zs.length = k) :
    Calls Try.prog 18 #[.int .i64 x] w (fun e w' => ∃ A' c', e = .returned (.tuple #[.agg #[.slice A' k c'], .int .i64 code]) ∧ Below w.heap.size w w' ∧ Obj2 48 2 w.heap.size w'.heap.size w' A' zs) := by
  rcases hres with ⟨hg, rfl, rfl⟩ | ⟨hg, rfl, rfl⟩
  · obtain ⟨n, rfl⟩ : ∃ n : Nat, x = (n : Int) := ⟨x.toNat, by omega⟩
    have h1 : 2 ≤ n := by omega
    have h6 : n ≤ 3 := by omega
    simp only [Int.toNat_natCast] at hk ⊢
    have hkn : 2 * (2 * n) = k := by rw [← hk, grid_length]
    subst hkn
    clear hk hg
    obtain ⟨M, hM⟩ : ∃ M, 2 * n = M := ⟨_, rfl⟩
    have hMz : 2 * (n : Int) = (M : Int) := by omega
    rw [hM]
    have hM6 : M ≤ 6 := by omega
    have hM1 : 1 ≤ M := by omega
    clear hM
    have HB0 := hide ((Below.refl _ w).alloc (Nat.le_refl _) (Obj.cells #[.slice none 0 0] 24))
    have HK0 := hide (Blk.new w 24 [.slice none 0 0])
    go_enter Try.func18, Try.ntmps18
    go_wp2_with fail
    refine (in_any _ 2 3 true _ (by simp; omega)).mono ?_
    rintro e w1 ⟨rfl, hq1⟩
    have HB1 := hide (HB0.out.trans (hq1.below _))
    have HK1 := hide (HK0.out.later (hq1.below _))
    clear hq1 HB0 HK0
    skip
    go_wp2_with fail
    refine (dblS_any M n _ hM1 hM6 (by omega)).mono ?_
    rintro e w3 ⟨A3, c3, rfl, hb3, ho3⟩
    have HB3 := hide (HB1.out.trans (hb3.mono HB1.out.size))
    have HK3 := hide (HK1.out.later hb3)
    have HO3 := hide ho3
    have hlow := HK1.out.lt
    clear hb3 ho3
    have k2 := HK3.out.cell 0 _ rfl
    have k3 := HK3.out.frozen 0
    go_wp2_with fail
    refine bp_gen fun wf hwf => ?_
    obtain ⟨q0, hbf, hof⟩ := kend hwf HK3.out (Nat.le_refl _) HB3.out HO3.out (by omega) hlow (Nat.le_refl _)
    clear hwf k2 k3
    exact bodyPost_ret (v := .tuple #[.agg #[.slice A3 (2 * M) c3], .int .i64 0]) (by simp [results, Try.results18, go_sem, q0]) rfl ⟨_, _, rfl, hbf, hof⟩
  · have hk0 : k = 0 := by rw [← hk]; rfl
    subst hk0
    clear hk
    have HB0 := hide ((Below.refl _ w).alloc (Nat.le_refl _) (Obj.cells #[.slice none 0 0] 24))
    have HK0 := hide (Blk.new w 24 [.slice none 0 0])
    go_enter Try.func18, Try.ntmps18
    go_wp2_with fail
    refine (in_any _ 2 3 false _ (by simp; omega)).mono ?_
    rintro e w1 ⟨rfl, hq1⟩
    have HB1 := hide (HB0.out.trans (hq1.below _))
    have HK1 := hide (HK0.out.later (hq1.below _))
    clear hq1 HB0 HK0
    have k2 := HK1.out.cell 0 _ rfl
    have k3 := HK1.out.frozen 0
    go_wp2_with fail
    refine bp_gen fun wf hwf => ?_
    have HRF : Blk wf w.heap.size 24 [.slice none 0 0] := by rw [hwf]; first | exact HK1.out | exact HK1.out.set 0 _
    have hbf : Below w.heap.size w wf := by rw [hwf]; first | exact HB1.out | exact HB1.out.setCell (p := ⟨w.heap.size, 0, none⟩) (Nat.le_refl _) _
    have q0 := HRF.cell 0 _ rfl
    clear hwf k2 k3
    first
      | exact bodyPost_ret (v := .tuple #[.agg #[.slice none 0 0], .int .i64 2]) (by simp [results, Try.results18, go_sem, q0]) rfl ⟨_, _, rfl, hbf, .inl ⟨rfl, rfl⟩⟩
      | exact bodyPost_ret (v := .tuple #[.agg #[.slice none 0 0], .int .i64 2]) (by simp [results, Try.results18, go_sem, q0]) rfl ⟨_, ⟨_, rfl⟩, hbf, .inl ⟨rfl, rfl⟩⟩
end Go.Proofs.Ytelildgngkajnaa
