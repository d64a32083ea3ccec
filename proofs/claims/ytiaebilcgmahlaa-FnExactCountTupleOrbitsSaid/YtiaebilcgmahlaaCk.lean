import Derived.Test.YtiaebilcgmahlaaCh
import Derived.Test.YtiaebilcgmahlaaCf
import Derived.Test.YtiaebilcgmahlaaCe
import Derived.Test.YtiaebilcgmahlaaCc
import Derived.Test.YtiaebilcgmahlaaCi
import Derived.Test.YtiaebilcgmahlaaCd
import Derived.Test.YtiaebilcgmahlaaCa
import Derived.Test.YtiaebilcgmahlaaCg
import Derived.Test.YtiaebilcgmahlaaCj
namespace Go.Proofs.Ytiaebilcgmahlaa
open Go Go.RowKit
set_option maxHeartbeats 4000000
theorem colInfo2 : (Try.prog.info? 94).map (fun i => (i.zero, i.size, i.bytes)) = some (some (.agg #[.int .i64 0, .int .i64 0]), 2, 16) := by kernel_rfl
theorem colZero (u : World) : (zeroValue 91).run Try.prog u = .ok (.slice none 0 0) u := by kernel_rfl
theorem ck_new {w : World} {v v2 : Value} {t : TypeId} : ∀ j u, [v, v2][j]? = some u → (w.alloc (.cells #[v, v2] t)).cell? ((⟨w.heap.size, 0, none⟩ : Addr).add j) = some u := by
  intro j u hj
  match j, hj with
  | 0, hj => simp at hj; subst hj; simp [Addr.add, World.cell?_alloc_new]
  | 1, hj => simp at hj; subst hj; simp [Addr.add, World.cell?_alloc_new]

set_option maxRecDepth 100000 in
theorem coll_any (A : Option Addr) (n c : Nat) (f : List (List Int)) (B : Option Addr) (m d : Nat) (s : List (List Int)) (w : World) (hz : ZArg 1048576 w A n f B m s) (hp : PMap f s) :
    Calls Try.prog 97 #[.agg #[.slice A n c, .slice B m d]] w fun e w' => Below w.heap.size w w' ∧ ((NoCol f s n ∧ e = .returned (.tuple #[.agg #[.int .i64 (0 : Nat), .int .i64 (0 : Nat)], .agg #[.int .i64 (0 : Nat), .int .i64 (0 : Nat)], .bool false])) ∨
      ∃ a b, FstCol f s n a b ∧ e = .returned (.tuple #[.agg #[.int .i64 (a / n : Nat), .int .i64 (a % n : Nat)], .agg #[.int .i64 (b / n : Nat), .int .i64 (b % n : Nat)], .bool true])) := by
  have hnb := hz.sz.nb
  have HZ := hide hz
  have HP := hide hp
  have HFL := hide hz.sz.fl
  have h12 := hz.small hp
  obtain ⟨N, hN⟩ : ∃ N, n * n = N := ⟨_, rfl⟩
  have hN144 : N ≤ 144 := by rw [← hN]; exact sq_le n h12.2
  have HN := hide hN
  obtain ⟨i0, hi, hz0, hz1, hz2⟩ := info_parts colInfo2
  have hmm := @run_makeMap Try.prog
  clear hp hz hN
  go_enter Try.func97, Try.ntmps97
  go_wp2_with fail
  clear hmm
  refine calls_gen fun w0 hw0 => ?_
  have HB0 : Hid (Below w.heap.size w w0) := hide (by rw [hw0]; exact ((((Below.refl _ _).alloc (Nat.le_refl _) _).alloc (by simp) _).alloc (by simp; omega) _).alloc (by simp; omega) _)
  have HK0 : Hid (Blk w0 w.heap.size 29 [.slice A n c, .slice B m d]) := hide (by rw [hw0]; exact (((Blk.new _ _ _).alloc _).alloc _).alloc _)
  have HO0 : Hid (Blk w0 (w.heap.size + 1) 94 [.int .i64 0, .int .i64 0]) := hide (by rw [hw0]; have h := ((Blk.new (w.alloc (Obj.cells #[Value.slice A n c, Value.slice B m d] 29)) 94 [.int .i64 0, .int .i64 0]).alloc (Obj.cells #[.int .i64 0, .int .i64 0] 94)).alloc (.map #[] 0); simpa using h)
  have HU0 : Hid (Blk w0 (w.heap.size + 1 + 1) 94 [.int .i64 0, .int .i64 0]) := hide (by rw [hw0]; have h := (Blk.new ((w.alloc (Obj.cells #[Value.slice A n c, Value.slice B m d] 29)).alloc (Obj.cells #[.int .i64 0, .int .i64 0] 94)) 94 [.int .i64 0, .int .i64 0]).alloc (.map #[] 0); simpa using h)
  have HM0 : Hid (MapV w0 (w.heap.size + 1 + 1 + 1) 0 (fun _ => none)) := hide (by rw [hw0]; have h := MapV.made (((w.alloc (Obj.cells #[Value.slice A n c, Value.slice B m d] 29)).alloc (Obj.cells #[.int .i64 0, .int .i64 0] 94)).alloc (Obj.cells #[.int .i64 0, .int .i64 0] 94)); simpa using h)
  clear hw0
  refine (size_any _ _ _ _ _ _ _ hnb).mono ?_
  rintro e w2 ⟨rfl, hb2⟩
  have HB2 := hide (HB0.out.trans (hb2.mono HB0.out.size))
  have HK2 := hide (HK0.out.later hb2)
  have HO2 := hide (HO0.out.later hb2)
  have HU2 := hide (HU0.out.later hb2)
  have HM2 := hide (HM0.out.later hb2)
  clear hb2
  go_wp2_with fail
  refine (pairsOf_any n N _ h12.1 h12.2 HN.out).mono ?_
  rintro e w3 ⟨g, rfl, hb3, hg3, hpa⟩
  have HB3 := hide (HB2.out.trans (hb3.mono HB2.out.size))
  have HK3 := hide (HK2.out.later hb3)
  have HO3 := hide (HO2.out.later hb3)
  have HU3 := hide (HU2.out.later hb3)
  have HPA3 := hide hpa
  obtain ⟨L0, hL0⟩ : ∃ L0, w3.heap.size = L0 := ⟨_, rfl⟩
  have HL3 : Hid (Led w3 (w.heap.size + 1 + 1 + 1) L0 n 0 f s (fun _ => .slice none 0 0)) := hide (Led.start (HM2.out.later hb3) (fun _ => rfl) _ _ _ _ (by rw [← hL0]; exact (HM2.out.later hb3).lt))
  have hgL : g < L0 := by rw [← hL0]; exact hpa.1
  have hgb : g ≠ w.heap.size + 1 + 1 + 1 := by have := HM2.out.lt; omega
  have hmL : w.heap.size + 1 + 1 + 1 < L0 := by rw [← hL0]; exact (HM2.out.later hb3).lt
  have hLs : L0 ≤ w3.heap.size := by omega
  clear hb3 hpa hL0
  go_wp2_with fail
  go_outline
  go_loopw [17] (fun i wr => ∃ (k : Nat) (G : Nat × Nat → Value), k ≤ N ∧ i = .int .i64 k ∧ Below w.heap.size w wr ∧ Blk wr w.heap.size 29 [.slice A n c, .slice B m d] ∧ Blk wr (w.heap.size + 1) 94 [.int .i64 0, .int .i64 0] ∧ Blk wr (w.heap.size + 1 + 1) 94 [.int .i64 0, .int .i64 0] ∧ PairsAt wr g n ∧ L0 ≤ wr.heap.size ∧ Led wr (w.heap.size + 1 + 1 + 1) L0 n k f s G) (fun i _ => N - (intOf i).toNat)
  case atStart => exact ⟨0, _, Nat.zero_le _, rfl, HB3.out, HK3.out, HO3.out, HU3.out, HPA3.out, hLs, HL3.out⟩
  case round =>
    obtain ⟨k, G, hk, rfl, hbe, hkk, hoo, huu, hpa, hls, hled⟩ := hrel
    have HB := hide hbe
    have HK := hide hkk
    have HO := hide hoo
    have HU := hide huu
    have HPA := hide hpa
    have HLD := hide hled
    clear hbe hkk hoo huu hpa hled
    by_cases hlt : k < N
    · have hkz : (k : Int) < N := by omega
      obtain ⟨p0, p1⟩ := HPA.out.2 k (by rw [HN.out]; exact hlt)
      have hxn : k / n < n := div_lt_sq (by rw [HN.out]; exact hlt)
      have hyn : k % n < n := mod_lt_sq (by rw [HN.out]; exact hlt)
      obtain ⟨x, hx⟩ : ∃ x, k / n = x := ⟨_, rfl⟩
      obtain ⟨y, hy⟩ : ∃ y, k % n = y := ⟨_, rfl⟩
      rw [hx] at p0 hxn
      rw [hy] at p1 hyn
      have HX := hide hx
      have HY := hide hy
      clear hx hy
      have hu := HP.out.lt1 HFL.out hxn hyn
      have hv := HP.out.lt2 HFL.out hxn hyn
      have hq : ledK f s n k = (ap f x y, ap s x y) := by unfold ledK; rw [HX.out, HY.out]
      obtain ⟨u, hue⟩ : ∃ u, ap f x y = u := ⟨_, rfl⟩
      obtain ⟨v, hve⟩ : ∃ v, ap s x y = v := ⟨_, rfl⟩
      rw [hue, hve] at hq
      rw [hue] at hu
      rw [hve] at hv
      have HQ := hide hq
      have HUE := hide hue
      have HVE := hide hve
      clear hq hue hve
      have k0 := fun o => (HK.out.alloc o).cell 0 _ rfl
      have k1 := fun o => (HK.out.alloc o).cell 1 _ rfl
      go_wp2_with fail
      clear k0 k1 p0 p1
      refine calls_gen fun w4 hw4 => ?_
      obtain ⟨P, hPe⟩ : ∃ P, wr.heap.size = P := ⟨_, rfl⟩
      have hbx : Below wr.heap.size wr w4 := by rw [hw4]; exact (Below.refl _ _).alloc (Nat.le_refl _) _
      have HP4 : Hid (Blk w4 P 94 [.int .i64 x, .int .i64 y]) := hide (by rw [hw4, ← hPe]; exact Blk.new _ _ _)
      have HB4 := hide (HB.out.trans (hbx.mono HB.out.size))
      have HK4 := hide (HK.out.later hbx)
      have HO4 := hide (HO.out.later hbx)
      have HU4 := hide (HU.out.later hbx)
      have HA4 := hide (HPA.out.later hbx)
      have HL4 := hide (HLD.out.later hbx)
      have hs4 := hbx.size
      rw [hPe]
      clear hw4 hbx
      refine (lead_any _ _ _ f _ _ _ s x y _ (HZ.out.later HB4.out) HP.out hxn hyn).mono ?_
      rintro e w5 ⟨rfl, hb5⟩
      rw [HUE.out, HVE.out]
      have HP5 := hide (HP4.out.later hb5)
      have HB5 := hide (HB4.out.trans (hb5.mono HB4.out.size))
      have HK5 := hide (HK4.out.later hb5)
      have HO5 := hide (HO4.out.later hb5)
      have HU5 := hide (HU4.out.later hb5)
      have HA5 := hide (HA4.out.later hb5)
      have HL5 := hide (HL4.out.later hb5)
      have hs5 := hb5.size
      clear hb5 hPe
      have p0 := fun o => (HP5.out.alloc o).cell 0 _ rfl
      have p1 := fun o => (HP5.out.alloc o).cell 1 _ rfl
      -- the world behind the box of q and the cells of the pair that is appended
      obtain ⟨w6, hw6⟩ : ∃ w6, w6 = (w5.alloc (Obj.cells #[Value.int IntKind.i64 u, Value.int IntKind.i64 v] 94)) := ⟨_, rfl⟩
      have hb6 : Below w5.heap.size w5 w6 := by rw [hw6]; exact (Below.refl _ _).alloc (Nat.le_refl _) _
      have hs6 : w6.heap.size = w5.heap.size + 1 := by rw [hw6]; simp
      obtain ⟨w7, hw7⟩ : ∃ w7, w7 = (w6.alloc (Obj.cells #[Value.int IntKind.i64 x, Value.int IntKind.i64 y] 94)) := ⟨_, rfl⟩
      have hb7 : Below w6.heap.size w6 w7 := by rw [hw7]; exact (Below.refl _ _).alloc (Nat.le_refl _) _
      have hs7 : w7.heap.size = w6.heap.size + 1 := by rw [hw7]; simp
      have hb57 : Below w5.heap.size w5 w7 := hb6.trans (hb7.mono hb6.size)
      have HB7 := hide (HB5.out.trans (hb57.mono HB5.out.size))
      have HK7 := hide (HK5.out.later hb57)
      have HO7 := hide (HO5.out.later hb57)
      have HU7 := hide (HU5.out.later hb57)
      have HA7 := hide (HA5.out.later hb57)
      have HL7 := hide (HL5.out.later hb57)
      obtain ⟨st, W, hE, hWo, hWs, hWg, hWr, hstep⟩ := HL7.out.step (t := 118) Try.underlying118 colZero (by unfold maxLen; omega) (u, v) HQ.out (by show u < _; omega) (by show v < _; omega)
      have hnew : ∀ j z, [Value.int IntKind.i64 (x : Int), Value.int IntKind.i64 (y : Int)][j]? = some z → W.cell? ((⟨w6.heap.size, 0, none⟩ : Addr).add j) = some z := fun j z hj => by
        have e : W.heap[w6.heap.size]? = w7.heap[w6.heap.size]? := hWo w6.heap.size (by have := HL5.out.lt; omega)
        have e2 : w7.cell? ((⟨w6.heap.size, 0, none⟩ : Addr).add j) = some z := by rw [hw7]; exact ck_new j z hj
        have hbl : ((⟨w6.heap.size, 0, none⟩ : Addr).add j).block = w6.heap.size := by unfold Addr.add; split <;> rfl
        rw [← e2]
        exact World.cell?_of_block (w := w7) (w' := W) (a := (⟨w6.heap.size, 0, none⟩ : Addr).add j) (by rw [hbl]; exact e)
      have HWO := hide hWo
      have HSTEP := hide hstep
      have HWR := hide hWr
      have HWG := hide hWg
      have HW67 := hide hw7
      rw [hw7, hw6] at hE
      have hE' : (Instr.mapEntry 118 (.map (some (w.heap.size + 1 + 1 + 1))) (.agg #[.int .i64 (u : Int), .int .i64 (v : Int)])).run Try.prog ((w5.alloc (Obj.cells #[Value.int IntKind.i64 u, Value.int IntKind.i64 v] 94)).alloc (Obj.cells #[Value.int IntKind.i64 x, Value.int IntKind.i64 y] 94)) = .ok (.tuple #[G (u, v), .int .i64 st]) W := hE
      rw [hs6] at hnew
      clear hE hWo hstep hWr hWg hw7
      have hLb := ledL_len f s n k (u, v)
      go_wp2_with (at_builtin; refine wpList_append_own_at _ rfl _ _ 91 rfl L0 94 i0 (.agg #[.int .i64 0, .int .i64 0]) 2 16 Try.underlying91 hi hz0 hz1 hz2 rfl (by decide) _ _ _ rfl HWR.out ⟨w5.heap.size + 1, 0, none⟩ 1 1 [.int .i64 (x : Int), .int .i64 (y : Int)] rfl rfl ?c1 ?c2 ?c3 ?c4 ?c5 ?_)
      case c1 => exact hnew
      case c2 => intro z hz9; simp at hz9; rcases hz9 with rfl | rfl <;> rfl
      case c3 => unfold maxLen; omega
      case c4 => omega
      case c5 => omega
      intro v' w8 hown8 hgrow8 _ hat8
      rw [← HX.out, ← HY.out] at hown8
      obtain ⟨w9, hS, hg9, hLed9⟩ := HSTEP.out w8 v' hgrow8 hown8 (hat8.imp id (fun h => by rw [h]; congr 1; omega))
      have hown : ∀ j, (G (u, v)).ownBlock = some j → L0 ≤ j := fun j hj => (HWR.out.lt j hj).1
      have hs8 := hgrow8.size
      have hs9 := hg9.size
      have hfr : ∀ i, i < L0 → i ≠ w.heap.size + 1 + 1 + 1 → w9.heap[i]? = w7.heap[i]? := fun i h1 h2 => by
        have e1 := HWO.out i h2
        have e2 := hgrow8.block i (by omega) (fun e => by have := hown i e.symm; omega)
        have e3 := hg9.block i (by omega) (fun e => by injection e with e; omega)
        rw [e3, e2, e1]
      have HB9 : Hid (Below w.heap.size w w9) := hide (by
        have h7 := HB7.out
        have s7 := h7.size
        have h8 := h7.grown HWG.out s7 (fun j e => by injection e with e; omega)
        have h9 := h8.grown hgrow8 (by omega) (fun j e => by have := hown j e; omega)
        exact h9.grown hg9 (by omega) (fun j e => by injection e with e; omega))
      have HK9 : Hid (Blk w9 w.heap.size 29 [.slice A n c, .slice B m d]) := hide ((hfr _ (by omega) (by omega)).trans HK7.out)
      have HO9 : Hid (Blk w9 (w.heap.size + 1) 94 [.int .i64 0, .int .i64 0]) := hide ((hfr _ (by omega) (by omega)).trans HO7.out)
      have HU9 : Hid (Blk w9 (w.heap.size + 1 + 1) 94 [.int .i64 0, .int .i64 0]) := hide ((hfr _ (by omega) (by omega)).trans HU7.out)
      have HA9 : Hid (PairsAt w9 g n) := hide (by
        have e := hfr g hgL hgb
        refine ⟨by omega, fun j hj => ?_⟩
        rw [World.cell?_of_block (a := ⟨g, j * 2, none⟩) e, World.cell?_of_block (a := ⟨g, j * 2 + 1, none⟩) e]
        exact HA7.out.2 j hj)
      have HL9 := hide hLed9
      clear hnew hown8 hgrow8 hat8 hg9 hLed9 hfr hown p0 p1 hE'
      go_wp2_with fail
      go_roundw
      case rel => exact ⟨k + 1, _, by omega, by go_num, HB9.out, HK9.out, HO9.out, HU9.out, HA9.out, by omega, HL9.out⟩
      case measure => simp [intOf]; omega
    · have hkn : k = N := by omega
      subst hkn
      have k0 := HK.out.cell 0 _ rfl
      have k1 := HK.out.cell 1 _ rfl
      go_wp2_with fail
      clear k0 k1
      refine (size_any _ _ _ _ _ _ _ hnb).mono ?_
      rintro e w4 ⟨rfl, hb4⟩
      have HB4 := hide (HB.out.trans (hb4.mono HB.out.size))
      have HK4 := hide (HK.out.later hb4)
      have HO4 := hide (HO.out.later hb4)
      have HU4 := hide (HU.out.later hb4)
      have HL4 := hide (HLD.out.later hb4)
      clear hb4
      go_wp2_with fail
      refine (pairsOf_any n k _ h12.1 h12.2 HN.out).mono ?_
      rintro e w5 ⟨g2, rfl, hb5, hg5, hpa5⟩
      have HB5 := hide (HB4.out.trans (hb5.mono HB4.out.size))
      have HK5 := hide (HK4.out.later hb5)
      have HO5 := hide (HO4.out.later hb5)
      have HU5 := hide (HU4.out.later hb5)
      have HL5 := hide (HL4.out.later hb5)
      have HA5 := hide hpa5
      clear hb5 hpa5
      go_wp2_with fail
      go_outline
      go_loopw [37] (fun i wr => ∃ j : Nat, j ≤ k ∧ i = .int .i64 j ∧ Below w.heap.size w wr ∧ Blk wr w.heap.size 29 [.slice A n c, .slice B m d] ∧ Blk wr (w.heap.size + 1) 94 [.int .i64 0, .int .i64 0] ∧ Blk wr (w.heap.size + 1 + 1) 94 [.int .i64 0, .int .i64 0] ∧ PairsAt wr g2 n ∧ Led wr (w.heap.size + 1 + 1 + 1) L0 n k f s G ∧ ∀ i, i < j → (ledL f s n (n * n) (ledK f s n i)).length ≤ 1) (fun i _ => k - (intOf i).toNat)
      case atStart => exact ⟨0, Nat.zero_le _, rfl, HB5.out, HK5.out, HO5.out, HU5.out, HA5.out, HL5.out, fun i hi => absurd hi (Nat.not_lt_zero _)⟩
      case round =>
        obtain ⟨j, hj, rfl, hbe, hkk, hoo, huu, hpa, hled, hall⟩ := hrel
        have HBr := hide hbe
        have HKr := hide hkk
        have HOr := hide hoo
        have HUr := hide huu
        have HAr := hide hpa
        have HLr := hide hled
        have HALL := hide hall
        clear hbe hkk hoo huu hpa hled hall
        by_cases hltj : j < k
        · have hjz : (j : Int) < k := by omega
          obtain ⟨p0, p1⟩ := HAr.out.2 j (by rw [HN.out]; exact hltj)
          have hxn : j / n < n := div_lt_sq (by rw [HN.out]; exact hltj)
          have hyn : j % n < n := mod_lt_sq (by rw [HN.out]; exact hltj)
          obtain ⟨x, hx⟩ : ∃ x, j / n = x := ⟨_, rfl⟩
          obtain ⟨y, hy⟩ : ∃ y, j % n = y := ⟨_, rfl⟩
          rw [hx] at p0 hxn
          rw [hy] at p1 hyn
          have HX := hide hx
          have HY := hide hy
          clear hx hy
          have hu := HP.out.lt1 HFL.out hxn hyn
          have hv := HP.out.lt2 HFL.out hxn hyn
          have hq : ledK f s n j = (ap f x y, ap s x y) := by unfold ledK; rw [HX.out, HY.out]
          obtain ⟨u, hue⟩ : ∃ u, ap f x y = u := ⟨_, rfl⟩
          obtain ⟨v, hve⟩ : ∃ v, ap s x y = v := ⟨_, rfl⟩
          rw [hue, hve] at hq
          rw [hue] at hu
          rw [hve] at hv
          have HQ := hide hq
          have HUE := hide hue
          have HVE := hide hve
          have hmem : j ∈ ledL f s n k (u, v) := ledL_mem.2 ⟨hltj, hq⟩
          clear hq hue hve
          have k0 := fun o => (HKr.out.alloc o).cell 0 _ rfl
          have k1 := fun o => (HKr.out.alloc o).cell 1 _ rfl
          go_wp2_with fail
          clear k0 k1 p0 p1
          refine calls_gen fun w6 hw6 => ?_
          obtain ⟨P, hPe⟩ : ∃ P, wr.heap.size = P := ⟨_, rfl⟩
          have hbx : Below wr.heap.size wr w6 := by rw [hw6]; exact (Below.refl _ _).alloc (Nat.le_refl _) _
          have HP6 : Hid (Blk w6 P 94 [.int .i64 x, .int .i64 y]) := hide (by rw [hw6, ← hPe]; exact Blk.new _ _ _)
          have HB6 := hide (HBr.out.trans (hbx.mono HBr.out.size))
          have HK6 := hide (HKr.out.later hbx)
          have HO6 := hide (HOr.out.later hbx)
          have HU6 := hide (HUr.out.later hbx)
          have HA6 := hide (HAr.out.later hbx)
          have HL6 := hide (HLr.out.later hbx)
          have hPlt : w.heap.size + 1 + 1 < P := by rw [← hPe]; exact HUr.out.lt
          rw [hPe]
          clear hw6 hbx hPe
          refine (lead_any _ _ _ f _ _ _ s x y _ (HZ.out.later HB6.out) HP.out hxn hyn).mono ?_
          rintro e w7 ⟨rfl, hb7⟩
          rw [HUE.out, HVE.out]
          have HP7 := hide (HP6.out.later hb7)
          have HB7 := hide (HB6.out.trans (hb7.mono HB6.out.size))
          have HK7 := hide (HK6.out.later hb7)
          have HO7 := hide (HO6.out.later hb7)
          have HU7 := hide (HU6.out.later hb7)
          have HA7 := hide (HA6.out.later hb7)
          have HL7 := hide (HL6.out.later hb7)
          clear hb7
          obtain ⟨V, hMV, hV⟩ := HL7.out.map
          obtain ⟨kl, hkey⟩ := mp_key w7 u v (by omega) (by omega)
          have hlook := hMV.look (t := 118) Try.underlying118 (colZero w7) hkey
          rw [hV (u, v)] at hlook
          have hrow := HL7.out.rows (u, v)
          obtain ⟨len, hlen⟩ : ∃ len, (ledL f s n k (u, v)).length = len := ⟨_, rfl⟩
          have hlen1 : 1 ≤ len := by rw [← hlen]; exact List.length_pos_of_mem hmem
          have hlenk : len ≤ k := by rw [← hlen]; exact ledL_len f s n k (u, v)
          rw [hlen] at hrow
          have hform : ∃ gg cap, G (u, v) = .slice (some ⟨gg, 0, none⟩) len cap := by
            rcases hrow.2 with ⟨_, h0⟩ | ⟨gg, cap, cur, hv9, _⟩
            · omega
            · exact ⟨gg, cap, hv9⟩
          obtain ⟨gg, cap, hG⟩ := hform
          have hcells := hrow.cells (g := gg) (by rw [hG]; rfl)
          have hgg : L0 ≤ gg := (hrow.lt gg (by rw [hG]; rfl)).1
          rw [hG] at hlook
          have hlook' : (Instr.lookup 118 (.map (some (w.heap.size + 1 + 1 + 1))) (.agg #[.int .i64 (u : Int), .int .i64 (v : Int)]) false).run Try.prog w7 = .ok (.slice (some ⟨gg, 0, none⟩) len cap) w7 := hlook
          have HLEN := hide hlen
          have HCELLS := hide hcells
          clear hMV hV hkey hlook hrow hG hlen hcells hmem
          by_cases h1l : 1 < len
          · have hsec := pcs_second n (ledL f s n k (u, v)) (by rw [HLEN.out]; exact h1l)
            have c2 := HCELLS.out 2 _ hsec.1
            have c3 := HCELLS.out 3 _ hsec.2
            simp only [Addr.add, Nat.zero_add] at c2 c3
            have hfst : FstCol f s n j ((ledL f s n k (u, v)).getD 1 0) := by
              have h := FstCol.of_list (f := f) (s := s) (n := n) (k := j) (by rw [HN.out]; exact hltj) HALL.out (by rw [HN.out, HQ.out, HLEN.out]; exact h1l)
              rw [HN.out, HQ.out] at h
              exact h
            obtain ⟨b2, hb2⟩ : ∃ b2, (ledL f s n k (u, v)).getD 1 0 = b2 := ⟨_, rfl⟩
            rw [hb2] at c2 c3 hfst
            obtain ⟨x2, hx2⟩ : ∃ x2, b2 / n = x2 := ⟨_, rfl⟩
            obtain ⟨y2, hy2⟩ : ∃ y2, b2 % n = y2 := ⟨_, rfl⟩
            rw [hx2] at c2
            rw [hy2] at c3
            have HF := hide hfst
            have HX2 := hide hx2
            have HY2 := hide hy2
            have h1z : (1 : Int) < len := by omega
            have p0 := HP7.out.cell 0 _ rfl
            have p1 := HP7.out.cell 1 _ rfl
            have o0 := HO7.out.cell 0 _ rfl
            have o1 := HO7.out.cell 1 _ rfl
            have o2 := HO7.out.frozen 0
            have o3 := HO7.out.frozen 1
            have u0 := HU7.out.cell 0 _ rfl
            have u1 := HU7.out.cell 1 _ rfl
            have u2 := HU7.out.frozen 0
            have u3 := HU7.out.frozen 1
            have c2' : w7.cell? ⟨gg, 2, none⟩ = some (.int .i64 x2) := by simpa using c2
            have c3' : w7.cell? ⟨gg, 3, none⟩ = some (.int .i64 y2) := by simpa using c3
            have d1 : w.heap.size + 1 ≠ P := by omega
            have d2 : w.heap.size + 1 + 1 ≠ P := by omega
            have d3 : w.heap.size + 1 ≠ gg := by omega
            have d4 : w.heap.size + 1 + 1 ≠ gg := by omega
            have d5 := d1.symm
            have d6 := d2.symm
            have d7 := d3.symm
            have d8 := d4.symm
            have n1 : w.heap.size + 1 ≠ w.heap.size + 1 + 1 := by omega
            have n2 := n1.symm
            clear hfst hb2 hx2 hy2 hsec c2 c3
            go_wp2_with fail
            go_region
            clear d1 d2 d3 d4 d5 d6 d7 d8 n1 n2 p0 p1 c2' c3' o0 o1 o2 o3 u0 u1 u2 u3
            all_goals go_wp2_with fail
            all_goals refine bp_gen fun wf hwf => ?_
            all_goals have HRF : Blk wf (w.heap.size + 1) 94 [.int .i64 x, .int .i64 y] := by rw [hwf]; exact (((((HO7.out.set 0 _).set 1 _).far (p := ⟨w.heap.size + 1 + 1, 0, none⟩) (by show w.heap.size + 1 ≠ w.heap.size + 1 + 1; omega) _).far (p := ⟨w.heap.size + 1 + 1, 1, none⟩) (by show w.heap.size + 1 ≠ w.heap.size + 1 + 1; omega) _)).drew
            all_goals have HSF : Blk wf (w.heap.size + 1 + 1) 94 [.int .i64 x2, .int .i64 y2] := by rw [hwf]; exact (((((HU7.out.far (p := ⟨w.heap.size + 1, 0, none⟩) (by show w.heap.size + 1 + 1 ≠ w.heap.size + 1; omega) _).far (p := ⟨w.heap.size + 1, 1, none⟩) (by show w.heap.size + 1 + 1 ≠ w.heap.size + 1; omega) _).set 0 _).set 1 _)).drew
            all_goals have HBF : Below w.heap.size w wf := by rw [hwf]; exact ((((HB7.out.setCell (by show w.heap.size ≤ w.heap.size + 1; omega) _).setCell (by show w.heap.size ≤ w.heap.size + 1; omega) _).setCell (by show w.heap.size ≤ w.heap.size + 1 + 1; omega) _).setCell (by show w.heap.size ≤ w.heap.size + 1 + 1; omega) _).drew
            all_goals have q0 := HRF.cell 0 _ rfl
            all_goals have q1 := HRF.cell 1 _ rfl
            all_goals have q2 := HSF.cell 0 _ rfl
            all_goals have q3 := HSF.cell 1 _ rfl
            all_goals clear hwf
            all_goals exact bodyPost_ret (v := .tuple #[.agg #[.int .i64 x, .int .i64 y], .agg #[.int .i64 x2, .int .i64 y2], .bool true]) (by simp [results, Try.results97, go_sem, q0, q1, q2, q3]) rfl ⟨HBF, .inr ⟨j, b2, HF.out, by rw [HX.out, HY.out, HX2.out, HY2.out]⟩⟩
          · have hl1 : len = 1 := by omega
            subst hl1
            go_wp2_with fail
            go_roundw
            case rel => exact ⟨j + 1, by omega, by go_num, HB7.out, HK7.out, HO7.out, HU7.out, HA7.out, HL7.out, fun i hi => by
              by_cases e : i = j
              · rw [e, HQ.out, HN.out, HLEN.out]; exact Nat.le_refl _
              · exact HALL.out i (by omega)⟩
            case measure => simp [intOf]; omega
        · have hjn : j = k := by omega
          subst hjn
          have hnc : NoCol f s n := NoCol.of_list (fun i hi => HALL.out i (by rw [← HN.out]; exact hi))
          have o0 := HOr.out.cell 0 _ rfl
          have o1 := HOr.out.cell 1 _ rfl
          have o2 := HOr.out.frozen 0
          have o3 := HOr.out.frozen 1
          have u0 := HUr.out.cell 0 _ rfl
          have u1 := HUr.out.cell 1 _ rfl
          have u2 := HUr.out.frozen 0
          have u3 := HUr.out.frozen 1
          have HNC := hide hnc
          clear hnc
          go_wp2_with fail
          clear o0 o1 o2 o3 u0 u1 u2 u3
          refine bp_gen fun wf hwf => ?_
          have HRF : Blk wf (w.heap.size + 1) 94 [.int .i64 0, .int .i64 0] := by rw [hwf]; exact (((((HOr.out.set 0 _).set 1 _).far (p := ⟨w.heap.size + 1 + 1, 0, none⟩) (by show w.heap.size + 1 ≠ w.heap.size + 1 + 1; omega) _).far (p := ⟨w.heap.size + 1 + 1, 1, none⟩) (by show w.heap.size + 1 ≠ w.heap.size + 1 + 1; omega) _))
          have HSF : Blk wf (w.heap.size + 1 + 1) 94 [.int .i64 0, .int .i64 0] := by rw [hwf]; exact (((((HUr.out.far (p := ⟨w.heap.size + 1, 0, none⟩) (by show w.heap.size + 1 + 1 ≠ w.heap.size + 1; omega) _).far (p := ⟨w.heap.size + 1, 1, none⟩) (by show w.heap.size + 1 + 1 ≠ w.heap.size + 1; omega) _).set 0 _).set 1 _))
          have HBF : Below w.heap.size w wf := by rw [hwf]; exact ((((HBr.out.setCell (by show w.heap.size ≤ w.heap.size + 1; omega) _).setCell (by show w.heap.size ≤ w.heap.size + 1; omega) _).setCell (by show w.heap.size ≤ w.heap.size + 1 + 1; omega) _).setCell (by show w.heap.size ≤ w.heap.size + 1 + 1; omega) _)
          have q0 := HRF.cell 0 _ rfl
          have q1 := HRF.cell 1 _ rfl
          have q2 := HSF.cell 0 _ rfl
          have q3 := HSF.cell 1 _ rfl
          clear hwf
          exact bodyPost_ret (v := .tuple #[.agg #[.int .i64 0, .int .i64 0], .agg #[.int .i64 0, .int .i64 0], .bool false]) (by simp [results, Try.results97, go_sem, q0, q1, q2, q3]) rfl ⟨HBF, .inl ⟨HNC.out, rfl⟩⟩
end Go.Proofs.Ytiaebilcgmahlaa
namespace Go.Proofs.Ytiaebilcgmahlaa
open Go Go.RowKit
/-! A queue of rows that grows, and beside it a list of the same rows in order. -/
theorem ins_at {α : Type} (l : List α) (k : Nat) (x : α) (hk : k ≤ l.length) (i : Nat) : (l.take k ++ x :: l.drop k)[i]? = if i < k then l[i]? else if i = k then some x else l[i - 1]? := by
  rw [List.getElem?_append, List.length_take, Nat.min_eq_left hk]
  by_cases h : i < k
  · rw [if_pos h, if_pos h, List.getElem?_take, if_pos h]
  · rw [if_neg h, if_neg h]
    by_cases e : i = k
    · subst e; simp
    · rw [if_neg e, show i - k = (i - 1 - k) + 1 by omega, List.getElem?_cons_succ, List.getElem?_drop, show k + (i - 1 - k) = i - 1 by omega]
theorem insL_at (l : List (List Int)) (k : Nat) (p : List Int) (hk : k ≤ l.length) (i : Nat) : (insL l k p).getD i [] = if i < k then l.getD i [] else if i = k then p else l.getD (i - 1) [] := by
  rw [List.getD_eq_getElem?_getD, insL, ins_at l k p hk i]
  by_cases h : i < k
  · rw [if_pos h, if_pos h, List.getD_eq_getElem?_getD]
  · rw [if_neg h, if_neg h]
    by_cases e : i = k
    · rw [if_pos e, if_pos e]; rfl
    · rw [if_neg e, if_neg e, List.getD_eq_getElem?_getD]
section
variable {ts t : TypeId} {B : Nat} {w w' w1 : World} {v v' vq vs : Value} {rows queue srt : List (List Int)} {vals qvals svals : List Value}
/-- The values are slices that read as the rows. -/
def RowsV (t : TypeId) (B : Nat) (w : World) (rows : List (List Int)) (vals : List Value) : Prop :=
  vals.length = rows.length ∧ ∀ i, i < rows.length → ∃ A c, vals[i]? = some (.slice A (rows.getD i []).length c) ∧ Obj1 t B w.heap.size w A (rows.getD i [])
theorem RowsV.kept (h : RowsV t B w rows vals) (hk : KeepT t w w') (hs : w.heap.size ≤ w'.heap.size) : RowsV t B w' rows vals :=
  ⟨h.1, fun i hi => by
    obtain ⟨A, c, h1, h2⟩ := h.2 i hi
    exact ⟨A, c, h1, (hk.obj h2).mono (Nat.le_refl _) hs⟩⟩
theorem RowsV.ins {A : Option Addr} {c k : Nat} {r : List Int} (h : RowsV t B w rows vals) (hk : k ≤ rows.length) (hA : Obj1 t B w.heap.size w A r) : RowsV t B w (insL rows k r) (vals.take k ++ .slice A r.length c :: vals.drop k) := by
  refine ⟨by simp [insL, h.1], fun i hi => ?_⟩
  rw [insL_length] at hi
  rw [insL_at _ _ _ hk, ins_at _ _ _ (by rw [h.1]; exact hk)]
  by_cases h1 : i < k
  · rw [if_pos h1, if_pos h1]
    exact h.2 i (by omega)
  · rw [if_neg h1, if_neg h1]
    by_cases h2 : i = k
    · rw [if_pos h2, if_pos h2]
      exact ⟨A, c, rfl, hA⟩
    · rw [if_neg h2, if_neg h2]
      exact h.2 (i - 1) (by omega)
/-- The queue and the sorted list. -/
structure Qs (ts t : TypeId) (B : Nat) (w : World) (vq vs : Value) (queue srt : List (List Int)) (qvals svals : List Value) : Prop where
  q : LstV ts t B w vq queue qvals
  s : w.ownsRow B ts 1 vs srt.length svals
  r : RowsV t B w srt svals
  d : ∀ g, vq.ownBlock = some g → vs.ownBlock ≠ some g
theorem Qs.later (h : Qs ts t B w vq vs queue srt qvals svals) (hb : Below w.heap.size w w') : Qs ts t B w' vq vs queue srt qvals svals :=
  ⟨h.q.later hb, ownsRow_below h.s hb, h.r.kept (KeepT.of_below hb) hb.size, h.d⟩
theorem Qs.slen (h : Qs ts t B w vq vs queue srt qvals svals) : svals.length = srt.length := h.r.1
/-- How the sorted list looks. -/
theorem Qs.look (h : Qs ts t B w vq vs queue srt qvals svals) (h0 : 0 < srt.length) : ∃ g c, vs = .slice (some ⟨g, 0, none⟩) srt.length c ∧ srt.length ≤ c ∧ c ≤ maxLen ∧ g < w.heap.size ∧ (∀ i u, svals[i]? = some u → w.cell? ⟨g, i, none⟩ = some u) ∧ Rd2 w (some ⟨g, 0, none⟩) srt := by
  rcases h.s.2 with ⟨_, h2⟩ | ⟨g, cap, cur, hv, hg, hh, h1, h2, h3, h4⟩
  · omega
  · have hc : ∀ i u, svals[i]? = some u → w.cell? ⟨g, i, none⟩ = some u := by
      intro i u hu
      rw [cell_of_row w g i cur ts (0, 0) hh]
      rw [← h4, List.getElem?_take] at hu
      by_cases e : i < srt.length * 1
      · rw [if_pos e] at hu; simpa using hu
      · rw [if_neg e] at hu; cases hu
    refine ⟨g, cap, hv, h1, h2, (Array.getElem?_eq_some_iff.1 hh).1, hc, fun _ => ⟨g, 0, rfl, (Array.getElem?_eq_some_iff.1 hh).1, fun i hi => ?_⟩⟩
    obtain ⟨A, c, e1, e2⟩ := h.r.2 i hi
    exact ⟨A, c, by rw [Nat.zero_add]; exact hc i _ e1, e2.rd⟩
theorem own_lt {n : Nat} {xs : List Value} (h : w.ownsRow B ts 1 v n xs) {g : Nat} (hg : v.ownBlock = some g) : B ≤ g ∧ g < w.heap.size := by
  rcases h.2 with ⟨hv, _⟩ | ⟨g', cap, cur, hv, hb, hh, _⟩
  · subst hv; simp [Value.ownBlock] at hg
  · subst hv
    simp [Value.ownBlock] at hg
    subst hg
    exact ⟨hb, (Array.getElem?_eq_some_iff.1 hh).1⟩
/-- A new sorted list in memory of its own, with one row more. -/
theorem Qs.sorted {A : Option Addr} {c k n : Nat} {p : List Int} (h : Qs ts t B w vq vs queue srt qvals svals) (hb : Below w.heap.size w w') (hB : B ≤ w.heap.size) (hk : k ≤ srt.length) (hA : Obj1 t B w'.heap.size w' A p) (hn : n = (insL srt k p).length)
    (hown : w'.ownsRow w.heap.size ts 1 v' n (svals.take k ++ .slice A p.length c :: svals.drop k)) : Qs ts t B w' vq v' queue (insL srt k p) qvals (svals.take k ++ .slice A p.length c :: svals.drop k) := by
  have h2 := h.later hb
  refine ⟨h2.q, ?_, h2.r.ins hk hA, fun g hg e => ?_⟩
  · subst hn
    refine ⟨hown.1, ?_⟩
    rcases hown.2 with h3 | ⟨g, cap, cur, hv, hg, rest⟩
    · exact .inl h3
    · exact .inr ⟨g, cap, cur, hv, Nat.le_trans hB hg, rest⟩
  · have h3 := (own_lt h.q.own hg).2
    have h4 := (own_lt hown e).1
    omega
/-- The row is put at the end of the queue. -/
theorem Qs.queued {A : Option Addr} {c : Nat} {p : List Int} {tmp : Obj} (hne : ts ≠ t) (h : Qs ts t B w vq vs queue srt qvals svals) (hA : Obj1 t B w.heap.size w A p)
    (hdis : ∀ (i : Nat) (u : Value) (g : Nat), qvals[i]? = some u → u.ownBlock = some g → ∀ a, A = some a → a.block ≠ g)
    (hown : w1.ownsRow B ts 1 v' (queue.length + 1) (qvals ++ [.slice A p.length c])) (hg : (w.alloc tmp).grownBy w1 vq.ownBlock) (hat : v'.ownBlock = vq.ownBlock ∨ v'.ownBlock = some (w.alloc tmp).heap.size) :
    Qs ts t B w1 v' vs (queue ++ [p]) srt (qvals ++ [.slice A p.length c]) svals := by
  have hal : Below w.heap.size w (w.alloc tmp) := (Below.refl _ _).alloc (Nat.le_refl _) _
  have hk : KeepT t w w1 := (KeepT.of_below hal).trans (KeepT.of_grown hne (ownsRow_below h.q.own hal) hg)
  have hsz1 : w.heap.size ≤ w1.heap.size := Nat.le_trans hal.size hg.size
  have hvs : vs.ownBlock = none ∨ vs.ownBlock ≠ vq.ownBlock := by
    cases e : vs.ownBlock with
    | none => exact .inl rfl
    | some g => exact .inr (fun e2 => h.d g e2.symm e)
  refine ⟨h.q.push2 hne hA hdis hown hg, (ownsRow_below h.s hal).kept hg hvs, h.r.kept hk hsz1, fun g hg1 e => ?_⟩
  rcases hat with e2 | e2
  · exact h.d g (e2 ▸ hg1) e
  · rw [hg1] at e2
    injection e2 with e2
    have := (own_lt h.s e).2
    simp at e2
    omega
end
end Go.Proofs.Ytiaebilcgmahlaa
namespace Go.Proofs.Ytiaebilcgmahlaa
open Go Go.RowKit
set_option maxHeartbeats 4000000

section
variable {ts t : TypeId} {lo n g1 g2 : Nat} {w w' : World} {G1 G2 : Nat → Nat} {f1 f2 : Nat → Nat → Int}
theorem Duo.later (h : Duo ts t lo w n g1 G1 f1 g2 G2 f2) (hb : Below w.heap.size w w') : Duo ts t lo w' n g1 G1 f1 g2 G2 f2 :=
  ⟨h.t1.later hb, h.t2.later hb, h.l1, h.l2, h.ne, h.n12, h.n21, h.rows⟩
theorem Duo.set1 (h : Duo ts t lo w n g1 G1 f1 g2 G2 f2) (i j : Nat) (v : Int) (hi : i < n) : Duo ts t lo (w.setCell ⟨G1 i, j, none⟩ (.int .i64 v)) n g1 G1 (fun a b => if a = i ∧ b = j then v else f1 a b) g2 G2 f2 :=
  ⟨h.t1.set i j v hi, h.t2.far1 (p := ⟨G1 i, j, none⟩) (h.n21 i hi) (fun a ha e => h.rows i a hi ha e.symm) _, h.l1, h.l2, h.ne, h.n12, h.n21, h.rows⟩
theorem Duo.set2 (h : Duo ts t lo w n g1 G1 f1 g2 G2 f2) (i j : Nat) (v : Int) (hi : i < n) : Duo ts t lo (w.setCell ⟨G2 i, j, none⟩ (.int .i64 v)) n g1 G1 f1 g2 G2 (fun a b => if a = i ∧ b = j then v else f2 a b) :=
  ⟨h.t1.far1 (p := ⟨G2 i, j, none⟩) (h.n12 i hi) (fun a ha e => h.rows a i ha hi e) _, h.t2.set i j v hi, h.l1, h.l2, h.ne, h.n12, h.n21, h.rows⟩
theorem Duo.congr {h1 h2 : Nat → Nat → Int} (h : Duo ts t lo w n g1 G1 f1 g2 G2 f2) (e1 : ∀ a b, a < n → b < n → f1 a b = h1 a b) (e2 : ∀ a b, a < n → b < n → f2 a b = h2 a b) : Duo ts t lo w n g1 G1 h1 g2 G2 h2 :=
  ⟨h.t1.congr e1, h.t2.congr e2, h.l1, h.l2, h.ne, h.n12, h.n21, h.rows⟩
theorem Duo.objW (h : Duo ts t lo w n g1 G1 f1 g2 G2 f2) {hi : Nat} (hhi : w.heap.size ≤ hi) : ObjW ts t lo hi w (some ⟨g1, 0, none⟩) (grid n f1) (some ⟨g2, 0, none⟩) (grid n f2) :=
  ⟨h.t1.obj h.l1.1 (Nat.lt_of_lt_of_le h.t1.lt hhi) (fun i hin => ⟨h.l1.2 i hin, Nat.lt_of_lt_of_le (h.t1.row i hin).lt hhi⟩), h.t2.obj h.l2.1 (Nat.lt_of_lt_of_le h.t2.lt hhi) (fun i hin => ⟨h.l2.2 i hin, Nat.lt_of_lt_of_le (h.t2.row i hin).lt hhi⟩)⟩
end
/-- After k pairs. -/
def bkTo (f s : List (List Int)) (n k : Nat) (h : Nat → Nat → Int) : Nat → Nat → Int := fun a b => if bk f s n a b < k then h a b else 0
theorem bkTo_zero (f s : List (List Int)) (n : Nat) (h : Nat → Nat → Int) (a b : Nat) : (0 : Int) = bkTo f s n 0 h a b := by unfold bkTo; simp
theorem bkTo_all {f s : List (List Int)} {n : Nat} (hp : PMap f s) (hn : f.length = n) (hc : NoCol f s n) (h : Nat → Nat → Int) (a b : Nat) (ha : a < n) (hb : b < n) : bkTo f s n (n * n) h a b = h a b := by
  unfold bkTo
  rw [if_pos (bk_spec hp hn hc ha hb).1]
theorem bkTo_next {f s : List (List Int)} {n : Nat} (hp : PMap f s) (hn : f.length = n) (hc : NoCol f s n) (h : Nat → Nat → Int) {k u v : Nat} (hk : k < n * n) (hq : ledK f s n k = (u, v)) {z : Int} (hz : h u v = z) (a b : Nat) (ha : a < n) (hb : b < n) : (if a = u ∧ b = v then z else bkTo f s n k h a b) = bkTo f s n (k + 1) h a b := by
  have hbk := bk_led hc hk hq
  by_cases e : a = u ∧ b = v
  · obtain ⟨rfl, rfl⟩ := e
    rw [if_pos ⟨rfl, rfl⟩]
    unfold bkTo
    rw [hbk, if_pos (by omega)]
    exact hz.symm
  · rw [if_neg e]
    unfold bkTo
    have hne : bk f s n a b ≠ k := fun e2 => e (by
      have h2 := (bk_spec hp hn hc ha hb).2
      rw [e2, hq] at h2
      injection h2 with h3 h4
      exact ⟨h3.symm, h4.symm⟩)
    by_cases e3 : bk f s n a b < k
    · rw [if_pos e3, if_pos (by omega)]
    · rw [if_neg e3, if_neg (by omega)]

def BkPost (n : Nat) (zf zg : List (List Int)) (w : World) (e : Ending) (w' : World) : Prop := ∃ A c B d, e = .returned (.agg #[.slice A n c, .slice B n d]) ∧ Below w.heap.size w w' ∧ ObjW 25 2 w.heap.size w'.heap.size w' A zf B zg
set_option maxRecDepth 100000 in
theorem bkS_any (A : Option Addr) (n c : Nat) (f : List (List Int)) (B : Option Addr) (m d : Nat) (s : List (List Int)) (w : World) (hz : ZArg 1048576 w A n f B m s) (hp : PMap f s) (hc : NoCol f s n) :
    Calls Try.prog 105 #[.agg #[.slice A n c, .slice B m d]] w (BkPost n (grid n (bk1 f s n)) (grid n (bk2 f s n)) w) := by
  have HZ := hide hz
  have HFL := hide hz.sz.fl
  have HP := hide hp
  have h12 := hz.small hp
  obtain rfl := hz.same hp
  have HC := hide hc
  clear hz hp hc
  go_enter Try.func105, Try.ntmps105
  go_wp2_with fail
  refine calls_gen fun w0 hw0 => ?_
  have hb0 : Below w.heap.size w w0 := by rw [hw0]; exact ((Below.refl _ _).alloc (Nat.le_refl _) _).alloc (by simp) _
  have HB0 := hide hb0
  have HK0 : Hid (Blk w0 w.heap.size 29 [.slice A m c, .slice B m d]) := hide (by rw [hw0]; exact (Blk.new _ _ _).alloc _)
  have HR0 : Hid (Blk w0 (w.heap.size + 1) 29 [.slice none 0 0, .slice none 0 0]) := hide (by rw [hw0]; have h := Blk.new (w.alloc (Obj.cells #[Value.slice A m c, Value.slice B m d] 29)) 29 [.slice none 0 0, .slice none 0 0]; simpa using h)
  clear hw0 hb0
  refine (emptyS_any m _ h12.1 h12.2).mono ?_
  unfold EmPost
  rintro e w1 ⟨g1, c1, g2, c2, G1, G2, rfl, hb1, hd⟩
  have HB1 := hide (HB0.out.trans (hb1.mono HB0.out.size))
  have HK1 := hide (HK0.out.later hb1)
  have HR1 := hide (HR0.out.later hb1)
  have HD1 := hide hd
  have hlo : w.heap.size + 1 < w0.heap.size := HR0.out.lt
  have hG1 : ∀ i, i < m → G1 i < w1.heap.size := fun i hi => (hd.t1.row i hi).lt
  have hG2 : ∀ i, i < m → G2 i < w1.heap.size := fun i hi => (hd.t2.row i hi).lt
  have HG1 := hide hG1
  have HG2 := hide hG2
  clear hb1 hd hG1 hG2
  go_wp2_with fail
  refine wp_gen fun w2 hw2 => ?_
  have hb2 : Below w1.heap.size w1 w2 := by rw [hw2]; exact (Below.refl _ _).alloc (Nat.le_refl _) _
  have HO2 : Hid (Blk w2 w1.heap.size 29 [.slice (some ⟨g1, 0, none⟩) m c1, .slice (some ⟨g2, 0, none⟩) m c2]) := hide (by rw [hw2]; exact Blk.new _ _ _)
  have HB2 := hide (HB1.out.trans (hb2.mono HB1.out.size))
  have HK2 := hide (HK1.out.later hb2)
  have HR2 := hide (HR1.out.later hb2)
  have HD2 := hide ((HD1.out.later hb2).congr (fun a b _ _ => bkTo_zero f s m (bk1 f s m) a b) (fun a b _ _ => bkTo_zero f s m (bk2 f s m) a b))
  clear hw2 hb2
  go_loopw [5] (fun i wr => ∃ x : Nat, x ≤ m ∧ i = .int .i64 x ∧ Below w.heap.size w wr ∧ Blk wr w.heap.size 29 [.slice A m c, .slice B m d] ∧ Blk wr (w.heap.size + 1) 29 [.slice none 0 0, .slice none 0 0] ∧ Blk wr w1.heap.size 29 [.slice (some ⟨g1, 0, none⟩) m c1, .slice (some ⟨g2, 0, none⟩) m c2] ∧ Duo 25 2 w0.heap.size wr m g1 G1 (bkTo f s m (x * m) (bk1 f s m)) g2 G2 (bkTo f s m (x * m) (bk2 f s m))) (fun i _ => m - (intOf i).toNat)
  case atStart => exact ⟨0, Nat.zero_le _, rfl, HB2.out, HK2.out, HR2.out, HO2.out, by rw [Nat.zero_mul]; exact HD2.out⟩
  case round =>
    obtain ⟨x, hx, rfl, hbe, hkk, hrr, hoo, hdd⟩ := hrel
    have HB := hide hbe
    have HK := hide hkk
    have HR := hide hrr
    have HO := hide hoo
    have HD := hide hdd
    clear hbe hkk hrr hoo hdd
    by_cases hlt : x < m
    · have hxz : (x : Int) < m := by omega
      go_wp2_with fail
      obtain ⟨wo, rfl⟩ : ∃ wo : World, wo = wr := ⟨_, rfl⟩
      go_loopw [6] (fun i wi => ∃ y : Nat, y ≤ m ∧ i = .int .i64 y ∧ Below w.heap.size w wi ∧ Blk wi w.heap.size 29 [.slice A m c, .slice B m d] ∧ Blk wi (w.heap.size + 1) 29 [.slice none 0 0, .slice none 0 0] ∧ Blk wi w1.heap.size 29 [.slice (some ⟨g1, 0, none⟩) m c1, .slice (some ⟨g2, 0, none⟩) m c2] ∧ Duo 25 2 w0.heap.size wi m g1 G1 (bkTo f s m (x * m + y) (bk1 f s m)) g2 G2 (bkTo f s m (x * m + y) (bk2 f s m))) (fun i _ => m - (intOf i).toNat)
      case atStart => exact ⟨0, Nat.zero_le _, rfl, HB.out, HK.out, HR.out, HO.out, HD.out⟩
      case round =>
        obtain ⟨y, hy, rfl, hbi, hki, hri, hoi, hdi⟩ := hrel
        have HBI := hide hbi
        have HKI := hide hki
        have HRI := hide hri
        have HOI := hide hoi
        have HDI := hide hdi
        clear hbi hki hri hoi hdi
        by_cases hlty : y < m
        · have hyz : (y : Int) < m := by omega
          obtain ⟨b, o, b2, o2, bx, ox, cx, by', oy, cy, rfl, rfl, h1, h2, h3, h4, l1, l2, l3, l4⟩ := HZ.out.reads HP.out hlt hlty
          have hu := HP.out.lt1 HFL.out hlt hlty
          have hv := HP.out.lt2 HFL.out hlt hlty
          have hKN : x * m + y < m * m := by
            have h9 := Nat.mul_le_mul_right m (show x + 1 ≤ m from hlt)
            rw [Nat.add_mul, Nat.one_mul] at h9
            omega
          have hq : ledK f s m (x * m + y) = (ap f x y, ap s x y) := by unfold ledK; rw [pair_div m x y hlty, pair_mod m x y hlty]
          obtain ⟨u, hue⟩ : ∃ u, ap f x y = u := ⟨_, rfl⟩
          obtain ⟨v, hve⟩ : ∃ v, ap s x y = v := ⟨_, rfl⟩
          rw [hue] at h3 hu hq
          rw [hve] at h4 hv hq
          have hb9 := bk_led HC.out hKN hq
          have z1 : bk1 f s m u v = (x : Int) := by unfold bk1; rw [hb9, pair_div m x y hlty]
          have z2 : bk2 f s m u v = (y : Int) := by unfold bk2; rw [hb9, pair_mod m x y hlty]
          have HQ := hide hq
          have HZ1 := hide z1
          have HZ2 := hide z2
          have huz : (u : Int) < m := by omega
          have hvz : (v : Int) < m := by omega
          obtain ⟨C1, r1⟩ := HDI.out.t1.top
          obtain ⟨C2, r2⟩ := HDI.out.t2.top
          have c1' := r1.cell hu
          have c2' := r2.cell hu
          have j1 := (HDI.out.t1.row u hu).cell hv
          have j2 := (HDI.out.t1.row u hu).frozen v
          have j3 := (HDI.out.t2.row u hu).cell hv
          have j4 := (HDI.out.t2.row u hu).frozen v
          have lG1 := HDI.out.l1.2 u hu
          have lG2 := HDI.out.l2.2 u hu
          have n1 : w.heap.size ≠ G1 u := by omega
          have n2 := n1.symm
          have n3 : b2 ≠ G1 u := by omega
          have n4 := n3.symm
          have n5 : by' ≠ G1 u := by omega
          have n6 := n5.symm
          have n7 : G2 u ≠ G1 u := fun e => HDI.out.rows u u hu hu e.symm
          have n8 := n7.symm
          have h1' := (HBI.out.cell (p := ⟨b, o + x, none⟩) l1).trans h1
          have h2' := (HBI.out.cell (p := ⟨b2, o2 + x, none⟩) l2).trans h2
          have h3' := (HBI.out.cell (p := ⟨bx, ox + y, none⟩) l3).trans h3
          have h4' := (HBI.out.cell (p := ⟨by', oy + y, none⟩) l4).trans h4
          have k0 := HKI.out.cell 0 _ rfl
          have k1 := HKI.out.cell 1 _ rfl
          have k2 := HOI.out.cell 0 _ rfl
          have k3 := HOI.out.cell 1 _ rfl
          have HN8 := hide n8
          clear hue hve hq hb9 z1 z2 h1 h2 h3 h4 l1 l2 l3 l4 r1 r2
          go_wp2_with fail
          go_quiet (fail)
          go_wp2_with fail
          clear c1' c2' j1 j2 j3 j4 h1' h2' h3' h4' k0 k1 k2 k3
          have hW : Below wr.heap.size wr (wr.drewN nq) := (Quiet.of wr nq).below _
          have hgu1 := HG1.out u hu
          have hgu2 := HG2.out u hu
          go_roundw
          case rel =>
            refine ⟨y + 1, by omega, by go_num, ((HBI.out.trans (hW.mono HBI.out.size)).setCell (p := ⟨G1 u, v, none⟩) (by show w.heap.size ≤ G1 u; omega) _).setCell (p := ⟨G2 u, v, none⟩) (by show w.heap.size ≤ G2 u; omega) _, ((HKI.out.later hW).far (p := ⟨G1 u, v, none⟩) (by show w.heap.size ≠ G1 u; omega) _).far (p := ⟨G2 u, v, none⟩) (by show w.heap.size ≠ G2 u; omega) _, ((HRI.out.later hW).far (p := ⟨G1 u, v, none⟩) (by show w.heap.size + 1 ≠ G1 u; omega) _).far (p := ⟨G2 u, v, none⟩) (by show w.heap.size + 1 ≠ G2 u; omega) _, ((HOI.out.later hW).far (p := ⟨G1 u, v, none⟩) (by show w1.heap.size ≠ G1 u; omega) _).far (p := ⟨G2 u, v, none⟩) (by show w1.heap.size ≠ G2 u; omega) _, ?_⟩
            have hd := ((HDI.out.later hW).set1 u v (x : Int) hu).set2 u v (y : Int) hu
            exact hd.congr (bkTo_next HP.out HFL.out HC.out (bk1 f s m) hKN HQ.out HZ1.out) (bkTo_next HP.out HFL.out HC.out (bk2 f s m) hKN HQ.out HZ2.out)
          case measure => simp [intOf]; omega
        · have hyn : y = m := by omega
          subst hyn
          go_wp2_with fail
          go_roundw
          case rel => exact ⟨x + 1, by omega, by go_num, HBI.out, HKI.out, HRI.out, HOI.out, by rw [Nat.add_mul, Nat.one_mul]; exact HDI.out⟩
          case measure => simp [intOf]; omega
    · have hxn : x = m := by omega
      subst hxn
      have k0 := HO.out.cell 0 _ rfl
      have k1 := HO.out.cell 1 _ rfl
      have k2 := HR.out.cell 0 _ rfl
      have k3 := HR.out.cell 1 _ rfl
      have k4 := HR.out.frozen 0
      have k5 := HR.out.frozen 1
      go_wp2_with fail
      refine bp_gen fun wf hwf => ?_
      have HDF := HD.out.congr (bkTo_all HP.out HFL.out HC.out (bk1 f s x)) (bkTo_all HP.out HFL.out HC.out (bk2 f s x))
      obtain ⟨q0, q1, hbf, hof⟩ := wend hwf HR.out (by omega) hlo HB.out HB0.out.size (HDF.objW (Nat.le_refl _))
      clear hwf k0 k1 k2 k3 k4 k5
      exact bodyPost_ret (v := .agg #[.slice (some ⟨g1, 0, none⟩) x c1, .slice (some ⟨g2, 0, none⟩) x c2]) (by simp [results, Try.results105, go_sem, q0, q1]) rfl (by unfold BkPost; exact ⟨_, _, _, _, rfl, hbf, hof⟩)
end Go.Proofs.Ytiaebilcgmahlaa
namespace Go.Proofs.Ytiaebilcgmahlaa
open Go Go.RowKit
/-- The place at which row x has z. -/
def sol (f : List (List Int)) (x z : Nat) : Nat := (ixOf (f.getD x []) (z : Int)).toNat
theorem sol_spec {f : List (List Int)} (ht : Tbl f) (hp : AllPrm f) {n x z : Nat} (hn : f.length = n) (hx : x < n) (hz : z < n) :
    sol f x z < n ∧ ixOf (f.getD x []) (z : Int) = ((sol f x z : Nat) : Int) ∧ (f.getD x []).getD (sol f x z) 0 = (z : Int) ∧ ap f x (sol f x z) = z := by
  have hl : (f.getD x []).length = n := ht.row_len hn hx
  have hpx : Prm (f.getD x []) := hp x (by omega)
  have hm : (z : Int) ∈ f.getD x [] := (prm_iff _).1 hpx |>.2.2 z (by omega) (by omega)
  have hi := List.idxOf_lt_length_iff.2 hm
  have e1 : ixOf (f.getD x []) (z : Int) = (((f.getD x []).idxOf (z : Int) : Nat) : Int) := by unfold ixOf; rw [if_pos hm]
  have e2 : sol f x z = (f.getD x []).idxOf (z : Int) := by unfold sol; rw [e1]; simp
  have e3 : (f.getD x []).getD ((f.getD x []).idxOf (z : Int)) 0 = (z : Int) := by
    generalize f.getD x [] = p at hi
    rw [List.getD_eq_getElem?_getD, List.getElem?_eq_getElem hi]
    simp
  rw [e2]
  refine ⟨by omega, e1, e3, ?_⟩
  unfold ap
  rw [e3]
  simp
theorem sol_lt {f : List (List Int)} (ht : Tbl f) (hp : AllPrm f) {n x z : Nat} (hn : f.length = n) (hx : x < n) (hz : z < n) : sol f x z < n := (sol_spec ht hp hn hx hz).1
theorem sol_ix {f : List (List Int)} (ht : Tbl f) (hp : AllPrm f) {n x z : Nat} (hn : f.length = n) (hx : x < n) (hz : z < n) : ixOf (f.getD x []) (z : Int) = ((sol f x z : Nat) : Int) := (sol_spec ht hp hn hx hz).2.1
theorem dual_row {f : List (List Int)} {n x : Nat} (hn : f.length = n) (hx : x < n) : (dualL f).getD x [] = backTo (f.getD x []) n := by
  unfold dualL
  rw [rowsL_at f _ x (by omega), hn]
theorem sol_dual {f : List (List Int)} (ht : Tbl f) (hp : AllPrm f) {n x z : Nat} (hn : f.length = n) (hx : x < n) (hz : z < n) : ((dualL f).getD x []).getD z 0 = ((sol f x z : Nat) : Int) := by
  have hl : (f.getD x []).length = n := ht.row_len hn hx
  have hpx : Prm (f.getD x []) := hp x (by omega)
  obtain ⟨h1, _, h3, _⟩ := sol_spec ht hp hn hx hz
  have h := backTo_hit hpx n (by omega) (sol f x z) h1
  rw [h3] at h
  rw [dual_row hn hx]
  simpa using h
theorem dualL_len (f : List (List Int)) : (dualL f).length = f.length := by unfold dualL; rw [rowsL_length]
theorem dual_len {f : List (List Int)} (ht : Tbl f) {n x : Nat} (hn : f.length = n) (hx : x < n) : ((dualL f).getD x []).length = n := by rw [dual_row hn hx, backTo_length]; exact ht.row_len hn hx
theorem dual_tbl {f : List (List Int)} (ht : Tbl f) (hp : AllPrm f) : Tbl (dualL f) := by
  refine ⟨by rw [dualL_len]; exact ht.1, by rw [dualL_len]; exact ht.2.1, ?_⟩
  intro i hi
  rw [dualL_len] at hi
  refine ⟨by rw [dual_len ht rfl hi, dualL_len], fun j hj => ?_⟩
  rw [dualL_len] at hj
  have h := sol_lt ht hp rfl hi hj
  rw [sol_dual ht hp rfl hi hj, dualL_len]
  omega
theorem sol_ap {f : List (List Int)} (ht : Tbl f) (hp : AllPrm f) {n x z : Nat} (hn : f.length = n) (hx : x < n) (hz : z < n) : ap (dualL f) x z = sol f x z := by
  have h := sol_dual ht hp hn hx hz
  unfold ap
  rw [h]
  simp
def DsRes (f : List (List Int)) (x z v code : Int) : Prop :=
  (Cyc f ∧ (0 ≤ x ∧ x < (f.length : Int)) ∧ (0 ≤ z ∧ z < (f.length : Int)) ∧ v = ((sol f x.toNat z.toNat : Nat) : Int) ∧ code = 0) ∨ (Cyc f ∧ ¬ ((0 ≤ x ∧ x < (f.length : Int)) ∧ (0 ≤ z ∧ z < (f.length : Int))) ∧ v = 0 ∧ code = 2) ∨ (¬ Cyc f ∧ v = 0 ∧ code = 1)
theorem DsRes.ex (f : List (List Int)) (x z : Int) : ∃ v code, DsRes f x z v code := by
  by_cases h : Cyc f
  · by_cases h2 : (0 ≤ x ∧ x < (f.length : Int)) ∧ (0 ≤ z ∧ z < (f.length : Int))
    · exact ⟨_, _, .inl ⟨h, h2.1, h2.2, rfl, rfl⟩⟩
    · exact ⟨_, _, .inr (.inl ⟨h, h2, rfl, rfl⟩)⟩
  · exact ⟨_, _, .inr (.inr ⟨h, rfl, rfl⟩)⟩
end Go.Proofs.Ytiaebilcgmahlaa
namespace Go.Proofs.Ytiaebilcgmahlaa
open Go Go.RowKit
set_option maxHeartbeats 1000000
theorem isS_any (A : Option Addr) (n c : Nat) (f : List (List Int)) (B : Option Addr) (m d : Nat) (s : List (List Int)) (r : Bool) (w : World) (hz : ZArg 1048576 w A n f B m s) (hr : IsRes f s r) :
    Calls Try.prog 51 #[.agg #[.slice A n c, .slice B m d]] w fun e w' => e = .returned (.bool r) ∧ Below w.heap.size w w' := by
  have HZ := hide hz
  have HB0 := hide ((Below.refl _ w).alloc (Nat.le_refl _) (Obj.cells #[Value.slice A n c, Value.slice B m d] 29))
  have HK0 := hide (Blk.new w 29 [.slice A n c, .slice B m d])
  have hcs := hr.cases hz.sz.fl
  clear hr hz
  rcases hcs with ⟨hp, rfl⟩ | ⟨hp, T, hT, hq⟩
  · have HP := hide hp
    clear hp
    go_enter Try.func51, Try.ntmps51
    go_wp2_with fail
    refine (mapS_any _ _ _ f _ _ _ s false _ (HZ.out.later HB0.out) (by simp [HP.out])).mono ?_
    rintro e w1 ⟨rfl, hb1⟩
    have HB1 := hide (HB0.out.trans (hb1.mono HB0.out.size))
    have HK1 := hide (HK0.out.later hb1)
    have k0 := HK1.out.cell 0 _ rfl
    have k1 := HK1.out.cell 1 _ rfl
    clear hb1
    go_wp2_with fail
    go_ret
    exact ⟨rfl, HB1.out⟩
  · have HP := hide hp
    have HT := hide hT
    clear hp hT
    have hq2 : (Hid (∃ a b, FstCol f s n a b) ∧ r = false) ∨ (Hid (NoCol f s n) ∧ ((T < n * n * n ∧ r = false) ∨ (T = n * n * n ∧ r = true))) := by
      rcases hq with ⟨h1, ⟨h2, h⟩ | ⟨h2, h⟩⟩ | ⟨h1, ⟨h2, h⟩ | ⟨h2, h⟩⟩
      · exact .inr ⟨hide h2, .inl ⟨h1, h⟩⟩
      · exact .inl ⟨hide h2, h⟩
      · exact .inl ⟨hide h2, h⟩
      · exact .inr ⟨hide h2, .inr ⟨h1, h⟩⟩
    clear hq
    rcases hq2 with ⟨HC, rfl⟩ | ⟨HC, ⟨hlt, rfl⟩ | ⟨hte, rfl⟩⟩
    · go_enter Try.func51, Try.ntmps51
      go_wp2_with fail
      refine (mapS_any _ _ _ f _ _ _ s true _ (HZ.out.later HB0.out) (by simp [HP.out])).mono ?_
      rintro e w1 ⟨rfl, hb1⟩
      have HB1 := hide (HB0.out.trans (hb1.mono HB0.out.size))
      have HK1 := hide (HK0.out.later hb1)
      have k0 := HK1.out.cell 0 _ rfl
      have k1 := HK1.out.cell 1 _ rfl
      clear hb1
      go_wp2_with fail
      refine (collS_any _ _ _ f _ _ _ s _ (HZ.out.later HB1.out) HP.out).mono ?_
      rintro e w2 ⟨g, q, ys, rfl, hb2, _, _, hres⟩
      have HB2 := hide (HB1.out.trans (hb2.mono HB1.out.size))
      have HK2 := hide (HK1.out.later hb2)
      have hq9 : q = 4 := by obtain ⟨a, b, hf⟩ := HC.out; rcases hres with ⟨hno, _⟩ | ⟨a', b', _, _, h⟩; exact absurd hno hf.not; exact h
      subst hq9
      clear hb2 hres k0 k1
      have k0 := HK2.out.cell 0 _ rfl
      have k1 := HK2.out.cell 1 _ rfl
      go_wp2_with fail
      go_ret
      exact ⟨rfl, HB2.out⟩
    · go_enter Try.func51, Try.ntmps51
      go_wp2_with fail
      refine (mapS_any _ _ _ f _ _ _ s true _ (HZ.out.later HB0.out) (by simp [HP.out])).mono ?_
      rintro e w1 ⟨rfl, hb1⟩
      have HB1 := hide (HB0.out.trans (hb1.mono HB0.out.size))
      have HK1 := hide (HK0.out.later hb1)
      have k0 := HK1.out.cell 0 _ rfl
      have k1 := HK1.out.cell 1 _ rfl
      clear hb1
      go_wp2_with fail
      refine (collS_any _ _ _ f _ _ _ s _ (HZ.out.later HB1.out) HP.out).mono ?_
      rintro e w2 ⟨g, q, ys, rfl, hb2, _, _, hres⟩
      have HB2 := hide (HB1.out.trans (hb2.mono HB1.out.size))
      have HK2 := hide (HK1.out.later hb2)
      have hq9 : q = 0 := by rcases hres with ⟨_, _, h⟩ | ⟨a', b', hf2, _⟩; exact h; exact absurd HC.out hf2.not
      subst hq9
      clear hb2 hres k0 k1
      have k0 := HK2.out.cell 0 _ rfl
      have k1 := HK2.out.cell 1 _ rfl
      go_wp2_with fail
      refine (faultS_any _ _ _ f _ _ _ s T _ (HZ.out.later HB2.out) HP.out HT.out).mono ?_
      rintro e w3 ⟨g3, q3, ys3, rfl, hb3, _, _, hres⟩
      have HB3 := hide (HB2.out.trans (hb3.mono HB2.out.size))
      have hq9 : q3 = 3 := by rcases hres with ⟨h1, _, h2⟩ | ⟨h1, _, h2⟩ <;> omega
      subst hq9
      clear hb3 hres k0 k1
      go_wp2_with fail
      go_ret
      exact ⟨rfl, HB3.out⟩
    · go_enter Try.func51, Try.ntmps51
      go_wp2_with fail
      refine (mapS_any _ _ _ f _ _ _ s true _ (HZ.out.later HB0.out) (by simp [HP.out])).mono ?_
      rintro e w1 ⟨rfl, hb1⟩
      have HB1 := hide (HB0.out.trans (hb1.mono HB0.out.size))
      have HK1 := hide (HK0.out.later hb1)
      have k0 := HK1.out.cell 0 _ rfl
      have k1 := HK1.out.cell 1 _ rfl
      clear hb1
      go_wp2_with fail
      refine (collS_any _ _ _ f _ _ _ s _ (HZ.out.later HB1.out) HP.out).mono ?_
      rintro e w2 ⟨g, q, ys, rfl, hb2, _, _, hres⟩
      have HB2 := hide (HB1.out.trans (hb2.mono HB1.out.size))
      have HK2 := hide (HK1.out.later hb2)
      have hq9 : q = 0 := by rcases hres with ⟨_, _, h⟩ | ⟨a', b', hf2, _⟩; exact h; exact absurd HC.out hf2.not
      subst hq9
      clear hb2 hres k0 k1
      have k0 := HK2.out.cell 0 _ rfl
      have k1 := HK2.out.cell 1 _ rfl
      go_wp2_with fail
      refine (faultS_any _ _ _ f _ _ _ s T _ (HZ.out.later HB2.out) HP.out HT.out).mono ?_
      rintro e w3 ⟨g3, q3, ys3, rfl, hb3, _, _, hres⟩
      have HB3 := hide (HB2.out.trans (hb3.mono HB2.out.size))
      have hq9 : q3 = 0 := by rcases hres with ⟨h1, _, h2⟩ | ⟨h1, _, h2⟩ <;> omega
      subst hq9
      clear hb3 hres k0 k1
      go_wp2_with fail
      go_ret
      exact ⟨rfl, HB3.out⟩
end Go.Proofs.Ytiaebilcgmahlaa
