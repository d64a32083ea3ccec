import Derived.Test.YtelildgngkajnaaZad
import Derived.Test.YtelildgngkajnaaZae
import Derived.Test.YtelildgngkajnaaZab
namespace Go.Proofs.Ytelildgngkajnaa
open Go Go.RowKit
set_option maxHeartbeats 4000000
theorem mo_func (P : Program) (w : World) (a : Addr) (F : Fn) (rs lb : Array Value) (m : Mode) : (store a (.func F rs lb) m).run P w = stored P w a (.func F rs lb) m := run_store P w a _ m rfl
attribute [local go_sem] mo_func
theorem moInfo : (Try.prog.info? 114).map (fun i => (i.zero, i.size, i.bytes)) = some (some (.agg #[.int .i64 0, .bool false]), 2, 16) := by kernel_rfl
/-- The cells of the list after k rounds. -/
def moC (m k j : Nat) : Value := if j % 2 = 0 then .int .i64 (if j / 2 < k ∨ (m ≤ j / 2 ∧ j / 2 < m + k) then ((j / 2 % m : Nat) : Int) else 0) else .bool (decide (m ≤ j / 2 ∧ j / 2 < m + k))
theorem moC_set {m k : Nat} (hk : k < m) (j : Nat) : (if j = (m + k) * 2 + 1 then Value.bool true else if j = (m + k) * 2 then Value.int .i64 (k : Nat) else if j = k * 2 + 1 then Value.bool false else if j = k * 2 then Value.int .i64 (k : Nat) else moC m k j) = moC m (k + 1) j := by
  unfold moC
  by_cases h1 : j = (m + k) * 2 + 1
  · subst h1
    rw [if_pos rfl, if_neg (by omega)]
    congr 1
    simp
    omega
  · rw [if_neg h1]
    by_cases h2 : j = (m + k) * 2
    · subst h2
      have e : (m + k) * 2 / 2 = m + k := by omega
      rw [if_pos rfl, if_pos (by omega), e, if_pos (by omega), Nat.add_mod_left, Nat.mod_eq_of_lt hk]
    · rw [if_neg h2]
      by_cases h3 : j = k * 2 + 1
      · subst h3
        have e : (k * 2 + 1) / 2 = k := by omega
        rw [if_pos rfl, if_neg (by omega), e]
        congr 1
        simp
        omega
      · rw [if_neg h3]
        by_cases h4 : j = k * 2
        · subst h4
          have e : k * 2 / 2 = k := by omega
          rw [if_pos rfl, if_pos (by omega), e, if_pos (by omega), Nat.mod_eq_of_lt hk]
        · rw [if_neg h4]
          by_cases h5 : j % 2 = 0
          · rw [if_pos h5, if_pos h5]
            congr 1
            have : (j / 2 < k ∨ (m ≤ j / 2 ∧ j / 2 < m + k)) ↔ (j / 2 < k + 1 ∨ (m ≤ j / 2 ∧ j / 2 < m + (k + 1))) := by omega
            by_cases h6 : j / 2 < k ∨ (m ≤ j / 2 ∧ j / 2 < m + k)
            · rw [if_pos h6, if_pos (this.1 h6)]
            · rw [if_neg h6, if_neg (fun h => h6 (this.2 h))]
          · rw [if_neg h5, if_neg h5]
            congr 1
            have : (m ≤ j / 2 ∧ j / 2 < m + k) ↔ (m ≤ j / 2 ∧ j / 2 < m + (k + 1)) := by omega
            simp only [this]
theorem moC_start (m j : Nat) : (if j % 2 = 0 then Value.int .i64 0 else Value.bool false) = moC m 0 j := by
  unfold moC
  by_cases h : j % 2 = 0
  · rw [if_pos h, if_pos h, if_neg (by omega)]
  · rw [if_neg h, if_neg h]
    congr 1
    simp
set_option maxRecDepth 100000 in
theorem moGrp_any (m s : Nat) (w : World) (h1 : 1 ≤ m) (hm : m ≤ 6) (hs : s ≤ 6) :
    Calls Try.prog 101 #[.int .i64 (m : Nat), .int .i64 (s : Nat)] w fun e w' => ∃ g c bm bs, e = .returned (.agg #[.slice (some ⟨g, 0, none⟩) (2 * m) c, .func (.func 133) #[] #[.pointer (some ⟨bm, 0, none⟩), .pointer (some ⟨bs, 0, none⟩)]]) ∧ Below w.heap.size w w' ∧ PrsAt w' g (2 * m) (fun i => .int .i64 (i % m : Nat)) (fun i => .bool (decide (m ≤ i))) ∧ Blk w' bm 2 [.int .i64 (m : Nat)] ∧ Blk w' bs 2 [.int .i64 (s : Nat)] := by
  have HB0 := hide ((((Below.refl _ w).alloc (Nat.le_refl _) (Obj.cells #[Value.int IntKind.i64 (m : Nat)] 2)).alloc (by simp) (Obj.cells #[Value.int IntKind.i64 (s : Nat)] 2)).alloc (by simp; omega) (Obj.cells #[Value.slice none 0 0, Value.nilFunc] 110))
  have HM0 := hide (((Blk.new w 2 [.int .i64 (m : Nat)]).alloc (Obj.cells #[Value.int IntKind.i64 (s : Nat)] 2)).alloc (Obj.cells #[Value.slice none 0 0, Value.nilFunc] 110))
  have HS0 : Hid (Blk (((w.alloc (Obj.cells #[Value.int IntKind.i64 (m : Nat)] 2)).alloc (Obj.cells #[Value.int IntKind.i64 (s : Nat)] 2)).alloc (Obj.cells #[Value.slice none 0 0, Value.nilFunc] 110)) (w.heap.size + 1) 2 [.int .i64 (s : Nat)]) := hide (by have h := (Blk.new (w.alloc (Obj.cells #[Value.int IntKind.i64 (m : Nat)] 2)) 2 [.int .i64 (s : Nat)]).alloc (Obj.cells #[Value.slice none 0 0, Value.nilFunc] 110); simpa using h)
  have HR0 : Hid (Blk (((w.alloc (Obj.cells #[Value.int IntKind.i64 (m : Nat)] 2)).alloc (Obj.cells #[Value.int IntKind.i64 (s : Nat)] 2)).alloc (Obj.cells #[Value.slice none 0 0, Value.nilFunc] 110)) (w.heap.size + 1 + 1) 110 [.slice none 0 0, Value.nilFunc]) := hide (by have h := Blk.new ((w.alloc (Obj.cells #[Value.int IntKind.i64 (m : Nat)] 2)).alloc (Obj.cells #[Value.int IntKind.i64 (s : Nat)] 2)) 110 [.slice none 0 0, Value.nilFunc]; simpa using h)
  obtain ⟨N, hN⟩ : ∃ N, 2 * m = N := ⟨_, rfl⟩
  have hNz : 2 * (m : Int) = (N : Int) := by omega
  have hN12 : N ≤ 12 := by omega
  rw [hN]
  have HNN := hide hN
  clear hN
  obtain ⟨i0, hinf, hz0, hz1, hz2⟩ := info_parts moInfo
  have hmk := make2 Try.prog 107 114 (.int .i64 0) (.bool false) i0 _ Try.underlying107 hinf hz0 hz1 hz2 rfl N (by omega)
  go_enter Try.func101, Try.ntmps101
  have m0 := HM0.out.cell 0 _ rfl
  go_wp2_with fail
  clear m0 hmk
  obtain ⟨w0, hw0⟩ : ∃ w0 : World, ((w.alloc (Obj.cells #[Value.int IntKind.i64 (m : Nat)] 2)).alloc (Obj.cells #[Value.int IntKind.i64 (s : Nat)] 2)).alloc (Obj.cells #[Value.slice none 0 0, Value.nilFunc] 110) = w0 := ⟨_, rfl⟩
  rw [hw0] at HB0 HM0 HS0 HR0 ⊢
  have hz0 : w0.heap.size = w.heap.size + 1 + 1 + 1 := by rw [← hw0]; simp
  obtain ⟨g, hgg⟩ : ∃ g, w.heap.size + 1 + 1 + 1 = g := ⟨_, rfl⟩
  have hg : w0.heap.size = g := hz0.trans hgg
  have HROW : Hid ((w0.alloc (.cells (madeCells #[.int .i64 0, .bool false] (N * 2)) 114)).rowIs g 114 (N * 2) (moC m 0)) := hide (by rw [← hg]; exact (made2_row w0 114 _ _ N).congr fun i _ => moC_start m i)
  have HGL : Hid (w.heap.size + 1 + 1 < g) := hide (by rw [← hg]; exact HR0.out.lt)
  have HBa := hide (HB0.out.alloc HB0.out.size (.cells (madeCells #[.int .i64 0, .bool false] (N * 2)) 114))
  have HMa := hide (HM0.out.alloc (.cells (madeCells #[.int .i64 0, .bool false] (N * 2)) 114))
  have HSa := hide (HS0.out.alloc (.cells (madeCells #[.int .i64 0, .bool false] (N * 2)) 114))
  have HRa := hide (HR0.out.alloc (.cells (madeCells #[.int .i64 0, .bool false] (N * 2)) 114))
  have ma := HMa.out.cell 0 _ rfl
  simp only [hgg]
  clear hw0 hg hgg hz0 HB0 HM0 HS0 HR0
  go_wp2_with fail
  go_loopw [11] (fun i wr => ∃ k : Nat, k ≤ m ∧ i = .int .i64 k ∧ Below w.heap.size w wr ∧ Blk wr w.heap.size 2 [.int .i64 (m : Nat)] ∧ Blk wr (w.heap.size + 1) 2 [.int .i64 (s : Nat)] ∧ Blk wr (w.heap.size + 1 + 1) 110 [.slice none 0 0, Value.nilFunc] ∧ wr.rowIs g 114 (N * 2) (moC m k)) (fun i _ => m - (intOf i).toNat)
  case atStart => exact ⟨0, Nat.zero_le _, rfl, HBa.out, HMa.out, HSa.out, HRa.out, HROW.out⟩
  case round =>
    clear ma HROW HBa HMa HSa HRa
    obtain ⟨k, hk, rfl, hbe, hmm, hss, hrr, hrow⟩ := hrel
    have HB := hide hbe
    have HM := hide hmm
    have HS := hide hss
    have HR := hide hrr
    have HW := hide hrow
    clear hbe hmm hss hrr hrow
    by_cases hlt : k < m
    · have hkz : (k : Int) < m := by omega
      obtain ⟨M, hM⟩ : ∃ M, m + k = M := ⟨_, rfl⟩
      have hMz : (m : Int) + (k : Int) = (M : Int) := by omega
      have hMN : M < N := by have := HNN.out; omega
      have hkN : k < N := by have := HNN.out; omega
      have hMNz : (M : Int) < N := by omega
      have hkNz : (k : Int) < N := by omega
      have hkM : k < M := by omega
      have HMM := hide hM
      have HMS := hide (fun j => moC_set hlt j)
      have f0 := HW.out.cell (i := k * 2) (by omega)
      have f1 := HW.out.cell (i := k * 2 + 1) (by omega)
      have g0 := HW.out.frozen (k * 2)
      have g1 := HW.out.frozen (k * 2 + 1)
      obtain ⟨u0, hu0⟩ : ∃ u, moC m k (k * 2) = u := ⟨_, rfl⟩
      obtain ⟨u1, hu1⟩ : ∃ u, moC m k (k * 2 + 1) = u := ⟨_, rfl⟩
      rw [hu0] at f0
      rw [hu1] at f1
      have HW1 := hide ((HW.out.set (k * 2) (.int .i64 (k : Nat))).set (k * 2 + 1) (.bool false))
      have f2 := HW1.out.cell (i := M * 2) (by omega)
      have f3 := HW1.out.cell (i := M * 2 + 1) (by omega)
      have g2 := HW1.out.frozen (M * 2)
      have g3 := HW1.out.frozen (M * 2 + 1)
      simp only [show M * 2 ≠ k * 2 + 1 by omega, show M * 2 ≠ k * 2 by omega, show M * 2 + 1 ≠ k * 2 + 1 by omega, show M * 2 + 1 ≠ k * 2 by omega, if_false] at f2 f3
      obtain ⟨u2, hu2⟩ : ∃ u, moC m k (M * 2) = u := ⟨_, rfl⟩
      obtain ⟨u3, hu3⟩ : ∃ u, moC m k (M * 2 + 1) = u := ⟨_, rfl⟩
      rw [hu2] at f2
      rw [hu3] at f3
      have HW2 := hide ((HW1.out.set (M * 2) (.int .i64 (k : Nat))).set (M * 2 + 1) (.bool true))
      clear hu0 hu1 hu2 hu3 hM
      have m0 := HM.out.cell 0 _ rfl
      have hgl := HGL.out
      have m1 : ((wr.setCell ⟨g, k * 2, none⟩ (.int .i64 (k : Nat))).setCell ⟨g, k * 2 + 1, none⟩ (.bool false)).cell? ⟨w.heap.size, 0, none⟩ = some (.int .i64 (m : Nat)) := ((HM.out.far (p := ⟨g, k * 2, none⟩) (by show w.heap.size ≠ g; omega) _).far (p := ⟨g, k * 2 + 1, none⟩) (by show w.heap.size ≠ g; omega) _).cell 0 _ rfl
      have hwM : IntKind.i64.wrap (M : Int) = (M : Int) := IntWalk.i64_in _ (by omega)
      go_wp2_with fail
      go_region
      clear f0 f1 f2 f3 g0 g1 g2 g3 m0 m1
      go_wp2_with fail
      go_roundw
      case rel =>
        have n1 : ∀ q, w.heap.size ≤ (⟨g, q, none⟩ : Addr).block := fun q => by show w.heap.size ≤ g; omega
        refine ⟨k + 1, by omega, by go_num, ((((HB.out.setCell (n1 _) _).setCell (n1 _) _).setCell (n1 _) _).setCell (n1 _) _).drew, ((((HM.out.far (by show w.heap.size ≠ g; omega) _).far (by show w.heap.size ≠ g; omega) _).far (by show w.heap.size ≠ g; omega) _).far (by show w.heap.size ≠ g; omega) _).drew, ((((HS.out.far (by show w.heap.size + 1 ≠ g; omega) _).far (by show w.heap.size + 1 ≠ g; omega) _).far (by show w.heap.size + 1 ≠ g; omega) _).far (by show w.heap.size + 1 ≠ g; omega) _).drew, ((((HR.out.far (by show w.heap.size + 1 + 1 ≠ g; omega) _).far (by show w.heap.size + 1 + 1 ≠ g; omega) _).far (by show w.heap.size + 1 + 1 ≠ g; omega) _).far (by show w.heap.size + 1 + 1 ≠ g; omega) _).drew, ?_⟩
        have h : (((((wr.setCell ⟨g, k * 2, none⟩ (.int .i64 (k : Nat))).setCell ⟨g, k * 2 + 1, none⟩ (.bool false)).setCell ⟨g, M * 2, none⟩ (.int .i64 (k : Nat))).setCell ⟨g, M * 2 + 1, none⟩ (.bool true))).rowIs g 114 (N * 2) (moC m (k + 1)) := HW2.out.congr fun i _ => by rw [← HMM.out]; exact HMS.out i
        exact h
      case measure => simp [intOf]; omega
    · have hkm : k = m := by omega
      subst hkm
      have hgl := HGL.out
      have r0 := HR.out.cell 0 _ rfl
      have r1 := HR.out.cell 1 _ rfl
      have r2 := HR.out.frozen 0
      have r3 := HR.out.frozen 1
      go_wp2_with fail
      refine bp_gen fun wf hwf => ?_
      have HRF : Blk wf (w.heap.size + 1 + 1) 110 [.slice (some ⟨g, 0, none⟩) N N, .func (.func 133) #[] #[.pointer (some ⟨w.heap.size, 0, none⟩), .pointer (some ⟨w.heap.size + 1, 0, none⟩)]] := by rw [hwf]; exact (HR.out.set 0 _).set 1 _
      have hbf : Below w.heap.size w wf := by rw [hwf]; exact (HB.out.setCell (p := ⟨w.heap.size + 1 + 1, 0, none⟩) (by show w.heap.size ≤ w.heap.size + 1 + 1; omega) _).setCell (p := ⟨w.heap.size + 1 + 1, 1, none⟩) (by show w.heap.size ≤ w.heap.size + 1 + 1; omega) _
      have hmf : Blk wf w.heap.size 2 [.int .i64 (k : Nat)] := by rw [hwf]; exact (HM.out.far (p := ⟨w.heap.size + 1 + 1, 0, none⟩) (by show w.heap.size ≠ w.heap.size + 1 + 1; omega) _).far (p := ⟨w.heap.size + 1 + 1, 1, none⟩) (by show w.heap.size ≠ w.heap.size + 1 + 1; omega) _
      have hsf : Blk wf (w.heap.size + 1) 2 [.int .i64 (s : Nat)] := by rw [hwf]; exact (HS.out.far (p := ⟨w.heap.size + 1 + 1, 0, none⟩) (by show w.heap.size + 1 ≠ w.heap.size + 1 + 1; omega) _).far (p := ⟨w.heap.size + 1 + 1, 1, none⟩) (by show w.heap.size + 1 ≠ w.heap.size + 1 + 1; omega) _
      have hwfr : wf.rowIs g 114 (N * 2) (moC k k) := by
        rw [hwf]
        obtain ⟨cur, c1, c2, c3⟩ := HW.out
        exact ⟨cur, (Below.heap_setCell _ _ _ _ (by show g ≠ w.heap.size + 1 + 1; omega)).trans ((Below.heap_setCell _ _ _ _ (by show g ≠ w.heap.size + 1 + 1; omega)).trans c1), c2, c3⟩
      have hpr : PrsAt wf g N (fun i => .int .i64 (i % k : Nat)) (fun i => .bool (decide (k ≤ i))) := by
        have hN := HNN.out
        refine ⟨hwfr.lt, fun i hi => ⟨?_, ?_⟩⟩
        · rw [hwfr.cell (by omega)]
          unfold moC
          rw [if_pos (by omega), if_pos (by omega), show i * 2 / 2 = i by omega]
        · rw [hwfr.cell (by omega)]
          unfold moC
          rw [if_neg (by omega), show (i * 2 + 1) / 2 = i by omega]
          congr 2
          simp
          omega
      have q0 := HRF.cell 0 _ rfl
      have q1 := HRF.cell 1 _ rfl
      clear hwf r0 r1 r2 r3
      exact bodyPost_ret (v := .agg #[.slice (some ⟨g, 0, none⟩) N N, .func (.func 133) #[] #[.pointer (some ⟨w.heap.size, 0, none⟩), .pointer (some ⟨w.heap.size + 1, 0, none⟩)]]) (by simp [results, Try.results101, go_sem, q0, q1]) rfl ⟨_, _, _, _, rfl, hbf, hpr, hmf, hsf⟩

set_option maxRecDepth 100000 in
theorem dihI_any (n : Nat) (w : World) (h1 : 1 ≤ n) (h6 : n ≤ 6) :
    Calls Try.prog 57 #[.int .i64 (n : Nat)] w fun e w' => ∃ A' c', e = .returned (.agg #[.slice A' (2 * n) c']) ∧ Below w.heap.size w w' ∧ Obj2 48 2 w.heap.size w'.heap.size w' A' (grid (2 * n) (fun i k => (moH n 0 i k : Nat))) := by
  have HB0 := hide ((Below.refl _ w).alloc (Nat.le_refl _) (Obj.cells #[.slice none 0 0] 24))
  have HK0 := hide (Blk.new w 24 [.slice none 0 0])
  go_enter Try.func57, Try.ntmps57
  go_wp2_with fail
  refine (moGrp_any n 0 _ h1 h6 (by omega)).mono ?_
  rintro e w1 ⟨g, c, bm, bs, rfl, hb1, hp, hm, hs⟩
  have HB1 := hide (HB0.out.trans (hb1.mono HB0.out.size))
  have HK1 := hide (HK0.out.later hb1)
  have HP := hide hp
  have HM := hide hm
  have HS := hide hs
  clear hb1 hp hm hs
  go_wp2_with fail
  refine (grpM_any 133 _ g (2 * n) c (fun i => i % n) (fun i => decide (n ≤ i)) (moH n 0) _ (fun _ _ => rfl) (by omega) (by omega) (fun i k _ _ => moH_lt h1) (fun i j hj hij => mo_ne h1 hj hij) HP.out (moMul_any n 0 bm bs _ h1 (by omega) (by omega) HM.out HS.out)).mono ?_
  rintro e w3 ⟨A3, c3, rfl, hb3, ho3⟩
  have HB3 := hide (HB1.out.trans (hb3.mono HB1.out.size))
  have HK3 := hide (HK1.out.later hb3)
  have HO3 := hide ho3
  have hlow := HK1.out.lt
  clear hb3 ho3
  have k2 := HK3.out.cell 0 _ rfl
  have k3 := HK3.out.frozen 0
  go_wp2_with fail
  refine bp_gen fun wf hwf => ?_
  obtain ⟨q0, hbf, hof⟩ := kend hwf HK3.out (by omega) HB3.out HO3.out (by omega) hlow (Nat.le_refl _)
  clear hwf k2 k3
  exact bodyPost_ret (v := .agg #[.slice A3 (2 * n) c3]) (by simp [results, Try.results57, go_sem, q0]) rfl ⟨_, _, rfl, hbf, hof⟩
end Go.Proofs.Ytelildgngkajnaa
