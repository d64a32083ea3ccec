import Derived.Test.YtljdfanebjhhmaaZbt
import Derived.Test.YtljdfanebjhhmaaZbp
import Derived.Test.YtljdfanebjhhmaaZbl
import Derived.Test.YtljdfanebjhhmaaZt
import Derived.Test.YtljdfanebjhhmaaZz
import Derived.Test.YtljdfanebjhhmaaZaj
namespace Go.Proofs.Ytljdfanebjhhmaa
open Go Go.RowKit
set_option maxHeartbeats 4000000
theorem colInfo2 : (Try.prog.info? 84).map (fun i => (i.zero, i.size, i.bytes)) = some (some (.agg #[.int .i64 0, .int .i64 0]), 2, 16) := by kernel_rfl
theorem colZero (u : World) : (zeroValue 81).run Try.prog u = .ok (.slice none 0 0) u := by kernel_rfl
theorem ck_new {w : World} {v v2 : Value} {t : TypeId} : ∀ j u, [v, v2][j]? = some u → (w.alloc (.cells #[v, v2] t)).cell? ((⟨w.heap.size, 0, none⟩ : Addr).add j) = some u := by
  intro j u hj
  match j, hj with
  | 0, hj => simp at hj; subst hj; simp [Addr.add, World.cell?_alloc_new]
  | 1, hj => simp at hj; subst hj; simp [Addr.add, World.cell?_alloc_new]

set_option maxRecDepth 100000 in
theorem coll_any (A : Option Addr) (n c : Nat) (f : List (List Int)) (B : Option Addr) (m d : Nat) (s : List (List Int)) (w : World) (hz : ZArg 1048576 w A n f B m s) (hp : PMap f s) :
    Calls Try.prog 99 #[.agg #[.slice A n c, .slice B m d]] w fun e w' => Below w.heap.size w w' ∧ ((NoCol f s n ∧ e = .returned (.tuple #[.agg #[.int .i64 (0 : Nat), .int .i64 (0 : Nat)], .agg #[.int .i64 (0 : Nat), .int .i64 (0 : Nat)], .bool false])) ∨
      ∃ a b, FstCol f s n a b ∧ e = .returned (.tuple #[.agg #[.int .i64 (a / n : Nat), .int .i64 (a % n : Nat)], .agg #[.int .i64 (b / n : Nat), .int .i64 (b % n : Nat)], .bool true])) := by
  have hnb := hz.sz.nb
  have HZ := hide hz
  have HP := hide hp
  have HFL := hide hz.sz.fl
  have h12 := hz.small hp
  obtain ⟨N, hN⟩ : ∃ N, n * n = N := ⟨_, rfl⟩
  have hN144 : N ≤ 144 := by rw [← hN]; exact sq_le n h12.2
  have HN := hide hN
  obtain ⟨i0, hi, hz0, hz1, hz2⟩ := info_parts colInfo2
  have hmm := @run_makeMap Try.prog
  clear hp hz hN
  go_enter Try.func99, Try.ntmps99
  go_wp2_with fail
  clear hmm
  refine calls_gen fun w0 hw0 => ?_
  have HB0 : Hid (Below w.heap.size w w0) := hide (by rw [hw0]; exact ((((Below.refl _ _).alloc (Nat.le_refl _) _).alloc (by simp) _).alloc (by simp; omega) _).alloc (by simp; omega) _)
  have HK0 : Hid (Blk w0 w.heap.size 46 [.slice A n c, .slice B m d]) := hide (by rw [hw0]; exact (((Blk.new _ _ _).alloc _).alloc _).alloc _)
  have HO0 : Hid (Blk w0 (w.heap.size + 1) 84 [.int .i64 0, .int .i64 0]) := hide (by rw [hw0]; have h := ((Blk.new (w.alloc (Obj.cells #[Value.slice A n c, Value.slice B m d] 46)) 84 [.int .i64 0, .int .i64 0]).alloc (Obj.cells #[.int .i64 0, .int .i64 0] 84)).alloc (.map #[] 0); simpa using h)
  have HU0 : Hid (Blk w0 (w.heap.size + 1 + 1) 84 [.int .i64 0, .int .i64 0]) := hide (by rw [hw0]; have h := (Blk.new ((w.alloc (Obj.cells #[Value.slice A n c, Value.slice B m d] 46)).alloc (Obj.cells #[.int .i64 0, .int .i64 0] 84)) 84 [.int .i64 0, .int .i64 0]).alloc (.map #[] 0); simpa using h)
  have HM0 : Hid (MapV w0 (w.heap.size + 1 + 1 + 1) 0 (fun _ => none)) := hide (by rw [hw0]; have h := MapV.made (((w.alloc (Obj.cells #[Value.slice A n c, Value.slice B m d] 46)).alloc (Obj.cells #[.int .i64 0, .int .i64 0] 84)).alloc (Obj.cells #[.int .i64 0, .int .i64 0] 84)); simpa using h)
  clear hw0
  refine (size_any _ _ _ _ _ _ _ hnb).mono ?_
  rintro e w2 ⟨rfl, hb2⟩
  have HB2 := hide (HB0.out.trans (hb2.mono HB0.out.size))
  have HK2 := hide (HK0.out.later hb2)
  have HO2 := hide (HO0.out.later hb2)
  have HU2 := hide (HU0.out.later hb2)
  have HM2 := hide (HM0.out.later hb2)
  clear hb2
  go_wp2_with fail
  refine (pairsOf_any n N _ h12.1 h12.2 HN.out).mono ?_
  rintro e w3 ⟨g, rfl, hb3, hg3, hpa⟩
  have HB3 := hide (HB2.out.trans (hb3.mono HB2.out.size))
  have HK3 := hide (HK2.out.later hb3)
  have HO3 := hide (HO2.out.later hb3)
  have HU3 := hide (HU2.out.later hb3)
  have HPA3 := hide hpa
  obtain ⟨L0, hL0⟩ : ∃ L0, w3.heap.size = L0 := ⟨_, rfl⟩
  have HL3 : Hid (Led w3 (w.heap.size + 1 + 1 + 1) L0 n 0 f s (fun _ => .slice none 0 0)) := hide (Led.start (HM2.out.later hb3) (fun _ => rfl) _ _ _ _ (by rw [← hL0]; exact (HM2.out.later hb3).lt))
  have hgL : g < L0 := by rw [← hL0]; exact hpa.1
  have hgb : g ≠ w.heap.size + 1 + 1 + 1 := by have := HM2.out.lt; omega
  have hmL : w.heap.size + 1 + 1 + 1 < L0 := by rw [← hL0]; exact (HM2.out.later hb3).lt
  have hLs : L0 ≤ w3.heap.size := by omega
  clear hb3 hpa hL0
  go_wp2_with fail
  go_outline
  go_loopw [17] (fun i wr => ∃ (k : Nat) (G : Nat × Nat → Value), k ≤ N ∧ i = .int .i64 k ∧ Below w.heap.size w wr ∧ Blk wr w.heap.size 46 [.slice A n c, .slice B m d] ∧ Blk wr (w.heap.size + 1) 84 [.int .i64 0, .int .i64 0] ∧ Blk wr (w.heap.size + 1 + 1) 84 [.int .i64 0, .int .i64 0] ∧ PairsAt wr g n ∧ L0 ≤ wr.heap.size ∧ Led wr (w.heap.size + 1 + 1 + 1) L0 n k f s G) (fun i _ => N - (intOf i).toNat)
  case atStart => exact ⟨0, _, Nat.zero_le _, rfl, HB3.out, HK3.out, HO3.out, HU3.out, HPA3.out, hLs, HL3.out⟩
  case round =>
    obtain ⟨k, G, hk, rfl, hbe, hkk, hoo, huu, hpa, hls, hled⟩ := hrel
    have HB := hide hbe
    have HK := hide hkk
    have HO := hide hoo
    have HU := hide huu
    have HPA := hide hpa
    have HLD := hide hled
    clear hbe hkk hoo huu hpa hled
    by_cases hlt : k < N
    · have hkz : (k : Int) < N := by omega
      obtain ⟨p0, p1⟩ := HPA.out.2 k (by rw [HN.out]; exact hlt)
      have hxn : k / n < n := div_lt_sq (by rw [HN.out]; exact hlt)
      have hyn : k % n < n := mod_lt_sq (by rw [HN.out]; exact hlt)
      obtain ⟨x, hx⟩ : ∃ x, k / n = x := ⟨_, rfl⟩
      obtain ⟨y, hy⟩ : ∃ y, k % n = y := ⟨_, rfl⟩
      rw [hx] at p0 hxn
      rw [hy] at p1 hyn
      have HX := hide hx
      have HY := hide hy
      clear hx hy
      have hu := HP.out.lt1 HFL.out hxn hyn
      have hv := HP.out.lt2 HFL.out hxn hyn
      have hq : ledK f s n k = (ap f x y, ap s x y) := by unfold ledK; rw [HX.out, HY.out]
      obtain ⟨u, hue⟩ : ∃ u, ap f x y = u := ⟨_, rfl⟩
      obtain ⟨v, hve⟩ : ∃ v, ap s x y = v := ⟨_, rfl⟩
      rw [hue, hve] at hq
      rw [hue] at hu
      rw [hve] at hv
      have HQ := hide hq
      have HUE := hide hue
      have HVE := hide hve
      clear hq hue hve
      have k0 := fun o => (HK.out.alloc o).cell 0 _ rfl
      have k1 := fun o => (HK.out.alloc o).cell 1 _ rfl
      go_wp2_with fail
      clear k0 k1 p0 p1
      refine calls_gen fun w4 hw4 => ?_
      obtain ⟨P, hPe⟩ : ∃ P, wr.heap.size = P := ⟨_, rfl⟩
      have hbx : Below wr.heap.size wr w4 := by rw [hw4]; exact (Below.refl _ _).alloc (Nat.le_refl _) _
      have HP4 : Hid (Blk w4 P 84 [.int .i64 x, .int .i64 y]) := hide (by rw [hw4, ← hPe]; exact Blk.new _ _ _)
      have HB4 := hide (HB.out.trans (hbx.mono HB.out.size))
      have HK4 := hide (HK.out.later hbx)
      have HO4 := hide (HO.out.later hbx)
      have HU4 := hide (HU.out.later hbx)
      have HA4 := hide (HPA.out.later hbx)
      have HL4 := hide (HLD.out.later hbx)
      have hs4 := hbx.size
      rw [hPe]
      clear hw4 hbx
      refine (lead_any _ _ _ f _ _ _ s x y _ (HZ.out.later HB4.out) HP.out hxn hyn).mono ?_
      rintro e w5 ⟨rfl, hb5⟩
      rw [HUE.out, HVE.out]
      have HP5 := hide (HP4.out.later hb5)
      have HB5 := hide (HB4.out.trans (hb5.mono HB4.out.size))
      have HK5 := hide (HK4.out.later hb5)
      have HO5 := hide (HO4.out.later hb5)
      have HU5 := hide (HU4.out.later hb5)
      have HA5 := hide (HA4.out.later hb5)
      have HL5 := hide (HL4.out.later hb5)
      have hs5 := hb5.size
      clear hb5 hPe
      have p0 := fun o => (HP5.out.alloc o).cell 0 _ rfl
      have p1 := fun o => (HP5.out.alloc o).cell 1 _ rfl
      -- the world behind the box of q and the cells of the pair that is appended
      obtain ⟨w6, hw6⟩ : ∃ w6, w6 = (w5.alloc (Obj.cells #[Value.int IntKind.i64 u, Value.int IntKind.i64 v] 84)) := ⟨_, rfl⟩
      have hb6 : Below w5.heap.size w5 w6 := by rw [hw6]; exact (Below.refl _ _).alloc (Nat.le_refl _) _
      have hs6 : w6.heap.size = w5.heap.size + 1 := by rw [hw6]; simp
      obtain ⟨w7, hw7⟩ : ∃ w7, w7 = (w6.alloc (Obj.cells #[Value.int IntKind.i64 x, Value.int IntKind.i64 y] 84)) := ⟨_, rfl⟩
      have hb7 : Below w6.heap.size w6 w7 := by rw [hw7]; exact (Below.refl _ _).alloc (Nat.le_refl _) _
      have hs7 : w7.heap.size = w6.heap.size + 1 := by rw [hw7]; simp
      have hb57 : Below w5.heap.size w5 w7 := hb6.trans (hb7.mono hb6.size)
      have HB7 := hide (HB5.out.trans (hb57.mono HB5.out.size))
      have HK7 := hide (HK5.out.later hb57)
      have HO7 := hide (HO5.out.later hb57)
      have HU7 := hide (HU5.out.later hb57)
      have HA7 := hide (HA5.out.later hb57)
      have HL7 := hide (HL5.out.later hb57)
      obtain ⟨st, W, hE, hWo, hWs, hWg, hWr, hstep⟩ := HL7.out.step (t := 114) Try.underlying114 colZero (by unfold maxLen; omega) (u, v) HQ.out (by show u < _; omega) (by show v < _; omega)
      have hnew : ∀ j z, [Value.int IntKind.i64 (x : Int), Value.int IntKind.i64 (y : Int)][j]? = some z → W.cell? ((⟨w6.heap.size, 0, none⟩ : Addr).add j) = some z := fun j z hj => by
        have e : W.heap[w6.heap.size]? = w7.heap[w6.heap.size]? := hWo w6.heap.size (by have := HL5.out.lt; omega)
        have e2 : w7.cell? ((⟨w6.heap.size, 0, none⟩ : Addr).add j) = some z := by rw [hw7]; exact ck_new j z hj
        have hbl : ((⟨w6.heap.size, 0, none⟩ : Addr).add j).block = w6.heap.size := by unfold Addr.add; split <;> rfl
        rw [← e2]
        exact World.cell?_of_block (w := w7) (w' := W) (a := (⟨w6.heap.size, 0, none⟩ : Addr).add j) (by rw [hbl]; exact e)
      have HWO := hide hWo
      have HSTEP := hide hstep
      have HWR := hide hWr
      have HWG := hide hWg
      have HW67 := hide hw7
      rw [hw7, hw6] at hE
      have hE' : (Instr.mapEntry 114 (.map (some (w.heap.size + 1 + 1 + 1))) (.agg #[.int .i64 (u : Int), .int .i64 (v : Int)])).run Try.prog ((w5.alloc (Obj.cells #[Value.int IntKind.i64 u, Value.int IntKind.i64 v] 84)).alloc (Obj.cells #[Value.int IntKind.i64 x, Value.int IntKind.i64 y] 84)) = .ok (.tuple #[G (u, v), .int .i64 st]) W := hE
      rw [hs6] at hnew
      clear hE hWo hstep hWr hWg hw7
      have hLb := ledL_len f s n k (u, v)
      go_wp2_with (at_builtin; refine wpList_append_own_at _ rfl _ _ 81 rfl L0 84 i0 (.agg #[.int .i64 0, .int .i64 0]) 2 16 Try.underlying81 hi hz0 hz1 hz2 rfl (by decide) _ _ _ rfl HWR.out ⟨w5.heap.size + 1, 0, none⟩ 1 1 [.int .i64 (x : Int), .int .i64 (y : Int)] rfl rfl ?c1 ?c2 ?c3 ?c4 ?c5 ?_)
      case c1 => exact hnew
      case c2 => intro z hz9; simp at hz9; rcases hz9 with rfl | rfl <;> rfl
      case c3 => unfold maxLen; omega
      case c4 => omega
      case c5 => omega
      intro v' w8 hown8 hgrow8 _ hat8
      rw [← HX.out, ← HY.out] at hown8
      obtain ⟨w9, hS, hg9, hLed9⟩ := HSTEP.out w8 v' hgrow8 hown8 (hat8.imp id (fun h => by rw [h]; congr 1; omega))
      have hown : ∀ j, (G (u, v)).ownBlock = some j → L0 ≤ j := fun j hj => (HWR.out.lt j hj).1
      have hs8 := hgrow8.size
      have hs9 := hg9.size
      have hfr : ∀ i, i < L0 → i ≠ w.heap.size + 1 + 1 + 1 → w9.heap[i]? = w7.heap[i]? := fun i h1 h2 => by
        have e1 := HWO.out i h2
        have e2 := hgrow8.block i (by omega) (fun e => by have := hown i e.symm; omega)
        have e3 := hg9.block i (by omega) (fun e => by injection e with e; omega)
        rw [e3, e2, e1]
      have HB9 : Hid (Below w.heap.size w w9) := hide (by
        have h7 := HB7.out
        have s7 := h7.size
        have h8 := h7.grown HWG.out s7 (fun j e => by injection e with e; omega)
        have h9 := h8.grown hgrow8 (by omega) (fun j e => by have := hown j e; omega)
        exact h9.grown hg9 (by omega) (fun j e => by injection e with e; omega))
      have HK9 : Hid (Blk w9 w.heap.size 46 [.slice A n c, .slice B m d]) := hide ((hfr _ (by omega) (by omega)).trans HK7.out)
      have HO9 : Hid (Blk w9 (w.heap.size + 1) 84 [.int .i64 0, .int .i64 0]) := hide ((hfr _ (by omega) (by omega)).trans HO7.out)
      have HU9 : Hid (Blk w9 (w.heap.size + 1 + 1) 84 [.int .i64 0, .int .i64 0]) := hide ((hfr _ (by omega) (by omega)).trans HU7.out)
      have HA9 : Hid (PairsAt w9 g n) := hide (by
        have e := hfr g hgL hgb
        refine ⟨by omega, fun j hj => ?_⟩
        rw [World.cell?_of_block (a := ⟨g, j * 2, none⟩) e, World.cell?_of_block (a := ⟨g, j * 2 + 1, none⟩) e]
        exact HA7.out.2 j hj)
      have HL9 := hide hLed9
      clear hnew hown8 hgrow8 hat8 hg9 hLed9 hfr hown p0 p1 hE'
      go_wp2_with fail
      go_roundw
      case rel => exact ⟨k + 1, _, by omega, by go_num, HB9.out, HK9.out, HO9.out, HU9.out, HA9.out, by omega, HL9.out⟩
      case measure => simp [intOf]; omega
    · have hkn : k = N := by omega
      subst hkn
      have k0 := HK.out.cell 0 _ rfl
      have k1 := HK.out.cell 1 _ rfl
      go_wp2_with fail
      clear k0 k1
      refine (size_any _ _ _ _ _ _ _ hnb).mono ?_
      rintro e w4 ⟨rfl, hb4⟩
      have HB4 := hide (HB.out.trans (hb4.mono HB.out.size))
      have HK4 := hide (HK.out.later hb4)
      have HO4 := hide (HO.out.later hb4)
      have HU4 := hide (HU.out.later hb4)
      have HL4 := hide (HLD.out.later hb4)
      clear hb4
      go_wp2_with fail
      refine (pairsOf_any n k _ h12.1 h12.2 HN.out).mono ?_
      rintro e w5 ⟨g2, rfl, hb5, hg5, hpa5⟩
      have HB5 := hide (HB4.out.trans (hb5.mono HB4.out.size))
      have HK5 := hide (HK4.out.later hb5)
      have HO5 := hide (HO4.out.later hb5)
      have HU5 := hide (HU4.out.later hb5)
      have HL5 := hide (HL4.out.later hb5)
      have HA5 := hide hpa5
      clear hb5 hpa5
      go_wp2_with fail
      go_outline
      go_loopw [37] (fun i wr => ∃ j : Nat, j ≤ k ∧ i = .int .i64 j ∧ Below w.heap.size w wr ∧ Blk wr w.heap.size 46 [.slice A n c, .slice B m d] ∧ Blk wr (w.heap.size + 1) 84 [.int .i64 0, .int .i64 0] ∧ Blk wr (w.heap.size + 1 + 1) 84 [.int .i64 0, .int .i64 0] ∧ PairsAt wr g2 n ∧ Led wr (w.heap.size + 1 + 1 + 1) L0 n k f s G ∧ ∀ i, i < j → (ledL f s n (n * n) (ledK f s n i)).length ≤ 1) (fun i _ => k - (intOf i).toNat)
      case atStart => exact ⟨0, Nat.zero_le _, rfl, HB5.out, HK5.out, HO5.out, HU5.out, HA5.out, HL5.out, fun i hi => absurd hi (Nat.not_lt_zero _)⟩
      case round =>
        obtain ⟨j, hj, rfl, hbe, hkk, hoo, huu, hpa, hled, hall⟩ := hrel
        have HBr := hide hbe
        have HKr := hide hkk
        have HOr := hide hoo
        have HUr := hide huu
        have HAr := hide hpa
        have HLr := hide hled
        have HALL := hide hall
        clear hbe hkk hoo huu hpa hled hall
        by_cases hltj : j < k
        · have hjz : (j : Int) < k := by omega
          obtain ⟨p0, p1⟩ := HAr.out.2 j (by rw [HN.out]; exact hltj)
          have hxn : j / n < n := div_lt_sq (by rw [HN.out]; exact hltj)
          have hyn : j % n < n := mod_lt_sq (by rw [HN.out]; exact hltj)
          obtain ⟨x, hx⟩ : ∃ x, j / n = x := ⟨_, rfl⟩
          obtain ⟨y, hy⟩ : ∃ y, j % n = y := ⟨_, rfl⟩
          rw [hx] at p0 hxn
          rw [hy] at p1 hyn
          have HX := hide hx
          have HY := hide hy
          clear hx hy
          have hu := HP.out.lt1 HFL.out hxn hyn
          have hv := HP.out.lt2 HFL.out hxn hyn
          have hq : ledK f s n j = (ap f x y, ap s x y) := by unfold ledK; rw [HX.out, HY.out]
          obtain ⟨u, hue⟩ : ∃ u, ap f x y = u := ⟨_, rfl⟩
          obtain ⟨v, hve⟩ : ∃ v, ap s x y = v := ⟨_, rfl⟩
          rw [hue, hve] at hq
          rw [hue] at hu
          rw [hve] at hv
          have HQ := hide hq
          have HUE := hide hue
          have HVE := hide hve
          have hmem : j ∈ ledL f s n k (u, v) := ledL_mem.2 ⟨hltj, hq⟩
          clear hq hue hve
          have k0 := fun o => (HKr.out.alloc o).cell 0 _ rfl
          have k1 := fun o => (HKr.out.alloc o).cell 1 _ rfl
          go_wp2_with fail
          clear k0 k1 p0 p1
          refine calls_gen fun w6 hw6 => ?_
          obtain ⟨P, hPe⟩ : ∃ P, wr.heap.size = P := ⟨_, rfl⟩
          have hbx : Below wr.heap.size wr w6 := by rw [hw6]; exact (Below.refl _ _).alloc (Nat.le_refl _) _
          have HP6 : Hid (Blk w6 P 84 [.int .i64 x, .int .i64 y]) := hide (by rw [hw6, ← hPe]; exact Blk.new _ _ _)
          have HB6 := hide (HBr.out.trans (hbx.mono HBr.out.size))
          have HK6 := hide (HKr.out.later hbx)
          have HO6 := hide (HOr.out.later hbx)
          have HU6 := hide (HUr.out.later hbx)
          have HA6 := hide (HAr.out.later hbx)
          have HL6 := hide (HLr.out.later hbx)
          have hPlt : w.heap.size + 1 + 1 < P := by rw [← hPe]; exact HUr.out.lt
          rw [hPe]
          clear hw6 hbx hPe
          refine (lead_any _ _ _ f _ _ _ s x y _ (HZ.out.later HB6.out) HP.out hxn hyn).mono ?_
          rintro e w7 ⟨rfl, hb7⟩
          rw [HUE.out, HVE.out]
          have HP7 := hide (HP6.out.later hb7)
          have HB7 := hide (HB6.out.trans (hb7.mono HB6.out.size))
          have HK7 := hide (HK6.out.later hb7)
          have HO7 := hide (HO6.out.later hb7)
          have HU7 := hide (HU6.out.later hb7)
          have HA7 := hide (HA6.out.later hb7)
          have HL7 := hide (HL6.out.later hb7)
          clear hb7
          obtain ⟨V, hMV, hV⟩ := HL7.out.map
          obtain ⟨kl, hkey⟩ := mp_key w7 u v (by omega) (by omega)
          have hlook := hMV.look (t := 114) Try.underlying114 (colZero w7) hkey
          rw [hV (u, v)] at hlook
          have hrow := HL7.out.rows (u, v)
          obtain ⟨len, hlen⟩ : ∃ len, (ledL f s n k (u, v)).length = len := ⟨_, rfl⟩
          have hlen1 : 1 ≤ len := by rw [← hlen]; exact List.length_pos_of_mem hmem
          have hlenk : len ≤ k := by rw [← hlen]; exact ledL_len f s n k (u, v)
          rw [hlen] at hrow
          have hform : ∃ gg cap, G (u, v) = .slice (some ⟨gg, 0, none⟩) len cap := by
            rcases hrow.2 with ⟨_, h0⟩ | ⟨gg, cap, cur, hv9, _⟩
            · omega
            · exact ⟨gg, cap, hv9⟩
          obtain ⟨gg, cap, hG⟩ := hform
          have hcells := hrow.cells (g := gg) (by rw [hG]; rfl)
          have hgg : L0 ≤ gg := (hrow.lt gg (by rw [hG]; rfl)).1
          rw [hG] at hlook
          have hlook' : (Instr.lookup 114 (.map (some (w.heap.size + 1 + 1 + 1))) (.agg #[.int .i64 (u : Int), .int .i64 (v : Int)]) false).run Try.prog w7 = .ok (.slice (some ⟨gg, 0, none⟩) len cap) w7 := hlook
          have HLEN := hide hlen
          have HCELLS := hide hcells
          clear hMV hV hkey hlook hrow hG hlen hcells hmem
          by_cases h1l : 1 < len
          · have hsec := pcs_second n (ledL f s n k (u, v)) (by rw [HLEN.out]; exact h1l)
            have c2 := HCELLS.out 2 _ hsec.1
            have c3 := HCELLS.out 3 _ hsec.2
            simp only [Addr.add, Nat.zero_add] at c2 c3
            have hfst : FstCol f s n j ((ledL f s n k (u, v)).getD 1 0) := by
              have h := FstCol.of_list (f := f) (s := s) (n := n) (k := j) (by rw [HN.out]; exact hltj) HALL.out (by rw [HN.out, HQ.out, HLEN.out]; exact h1l)
              rw [HN.out, HQ.out] at h
              exact h
            obtain ⟨b2, hb2⟩ : ∃ b2, (ledL f s n k (u, v)).getD 1 0 = b2 := ⟨_, rfl⟩
            rw [hb2] at c2 c3 hfst
            obtain ⟨x2, hx2⟩ : ∃ x2, b2 / n = x2 := ⟨_, rfl⟩
            obtain ⟨y2, hy2⟩ : ∃ y2, b2 % n = y2 := ⟨_, rfl⟩
            rw [hx2] at c2
            rw [hy2] at c3
            have HF := hide hfst
            have HX2 := hide hx2
            have HY2 := hide hy2
            have h1z : (1 : Int) < len := by omega
            have p0 := HP7.out.cell 0 _ rfl
            have p1 := HP7.out.cell 1 _ rfl
            have o0 := HO7.out.cell 0 _ rfl
            have o1 := HO7.out.cell 1 _ rfl
            have o2 := HO7.out.frozen 0
            have o3 := HO7.out.frozen 1
            have u0 := HU7.out.cell 0 _ rfl
            have u1 := HU7.out.cell 1 _ rfl
            have u2 := HU7.out.frozen 0
            have u3 := HU7.out.frozen 1
            have c2' : w7.cell? ⟨gg, 2, none⟩ = some (.int .i64 x2) := by simpa using c2
            have c3' : w7.cell? ⟨gg, 3, none⟩ = some (.int .i64 y2) := by simpa using c3
            have d1 : w.heap.size + 1 ≠ P := by omega
            have d2 : w.heap.size + 1 + 1 ≠ P := by omega
            have d3 : w.heap.size + 1 ≠ gg := by omega
            have d4 : w.heap.size + 1 + 1 ≠ gg := by omega
            have d5 := d1.symm
            have d6 := d2.symm
            have d7 := d3.symm
            have d8 := d4.symm
            have n1 : w.heap.size + 1 ≠ w.heap.size + 1 + 1 := by omega
            have n2 := n1.symm
            clear hfst hb2 hx2 hy2 hsec c2 c3
            go_wp2_with fail
            go_region
            clear d1 d2 d3 d4 d5 d6 d7 d8 n1 n2 p0 p1 c2' c3' o0 o1 o2 o3 u0 u1 u2 u3
            all_goals go_wp2_with fail
            all_goals refine bp_gen fun wf hwf => ?_
            all_goals have HRF : Blk wf (w.heap.size + 1) 84 [.int .i64 x, .int .i64 y] := by rw [hwf]; exact (((((HO7.out.set 0 _).set 1 _).far (p := ⟨w.heap.size + 1 + 1, 0, none⟩) (by show w.heap.size + 1 ≠ w.heap.size + 1 + 1; omega) _).far (p := ⟨w.heap.size + 1 + 1, 1, none⟩) (by show w.heap.size + 1 ≠ w.heap.size + 1 + 1; omega) _)).drew
            all_goals have HSF : Blk wf (w.heap.size + 1 + 1) 84 [.int .i64 x2, .int .i64 y2] := by rw [hwf]; exact (((((HU7.out.far (p := ⟨w.heap.size + 1, 0, none⟩) (by show w.heap.size + 1 + 1 ≠ w.heap.size + 1; omega) _).far (p := ⟨w.heap.size + 1, 1, none⟩) (by show w.heap.size + 1 + 1 ≠ w.heap.size + 1; omega) _).set 0 _).set 1 _)).drew
            all_goals have HBF : Below w.heap.size w wf := by rw [hwf]; exact ((((HB7.out.setCell (by show w.heap.size ≤ w.heap.size + 1; omega) _).setCell (by show w.heap.size ≤ w.heap.size + 1; omega) _).setCell (by show w.heap.size ≤ w.heap.size + 1 + 1; omega) _).setCell (by show w.heap.size ≤ w.heap.size + 1 + 1; omega) _).drew
            all_goals have q0 := HRF.cell 0 _ rfl
            all_goals have q1 := HRF.cell 1 _ rfl
            all_goals have q2 := HSF.cell 0 _ rfl
            all_goals have q3 := HSF.cell 1 _ rfl
            all_goals clear hwf
            all_goals exact bodyPost_ret (v := .tuple #[.agg #[.int .i64 x, .int .i64 y], .agg #[.int .i64 x2, .int .i64 y2], .bool true]) (by simp [results, Try.results99, go_sem, q0, q1, q2, q3]) rfl ⟨HBF, .inr ⟨j, b2, HF.out, by rw [HX.out, HY.out, HX2.out, HY2.out]⟩⟩
          · have hl1 : len = 1 := by omega
            subst hl1
            go_wp2_with fail
            go_roundw
            case rel => exact ⟨j + 1, by omega, by go_num, HB7.out, HK7.out, HO7.out, HU7.out, HA7.out, HL7.out, fun i hi => by
              by_cases e : i = j
              · rw [e, HQ.out, HN.out, HLEN.out]; exact Nat.le_refl _
              · exact HALL.out i (by omega)⟩
            case measure => simp [intOf]; omega
        · have hjn : j = k := by omega
          subst hjn
          have hnc : NoCol f s n := NoCol.of_list (fun i hi => HALL.out i (by rw [← HN.out]; exact hi))
          have o0 := HOr.out.cell 0 _ rfl
          have o1 := HOr.out.cell 1 _ rfl
          have o2 := HOr.out.frozen 0
          have o3 := HOr.out.frozen 1
          have u0 := HUr.out.cell 0 _ rfl
          have u1 := HUr.out.cell 1 _ rfl
          have u2 := HUr.out.frozen 0
          have u3 := HUr.out.frozen 1
          have HNC := hide hnc
          clear hnc
          go_wp2_with fail
          clear o0 o1 o2 o3 u0 u1 u2 u3
          refine bp_gen fun wf hwf => ?_
          have HRF : Blk wf (w.heap.size + 1) 84 [.int .i64 0, .int .i64 0] := by rw [hwf]; exact (((((HOr.out.set 0 _).set 1 _).far (p := ⟨w.heap.size + 1 + 1, 0, none⟩) (by show w.heap.size + 1 ≠ w.heap.size + 1 + 1; omega) _).far (p := ⟨w.heap.size + 1 + 1, 1, none⟩) (by show w.heap.size + 1 ≠ w.heap.size + 1 + 1; omega) _))
          have HSF : Blk wf (w.heap.size + 1 + 1) 84 [.int .i64 0, .int .i64 0] := by rw [hwf]; exact (((((HUr.out.far (p := ⟨w.heap.size + 1, 0, none⟩) (by show w.heap.size + 1 + 1 ≠ w.heap.size + 1; omega) _).far (p := ⟨w.heap.size + 1, 1, none⟩) (by show w.heap.size + 1 + 1 ≠ w.heap.size + 1; omega) _).set 0 _).set 1 _))
          have HBF : Below w.heap.size w wf := by rw [hwf]; exact ((((HBr.out.setCell (by show w.heap.size ≤ w.heap.size + 1; omega) _).setCell (by show w.heap.size ≤ w.heap.size + 1; omega) _).setCell (by show w.heap.size ≤ w.heap.size + 1 + 1; omega) _).setCell (by show w.heap.size ≤ w.heap.size + 1 + 1; omega) _)
          have q0 := HRF.cell 0 _ rfl
          have q1 := HRF.cell 1 _ rfl
          have q2 := HSF.cell 0 _ rfl
          have q3 := HSF.cell 1 _ rfl
          clear hwf
          exact bodyPost_ret (v := .tuple #[.agg #[.int .i64 0, .int .i64 0], .agg #[.int .i64 0, .int .i64 0], .bool false]) (by simp [results, Try.results99, go_sem, q0, q1, q2, q3]) rfl ⟨HBF, .inl ⟨HNC.out, rfl⟩⟩
end Go.Proofs.Ytljdfanebjhhmaa
