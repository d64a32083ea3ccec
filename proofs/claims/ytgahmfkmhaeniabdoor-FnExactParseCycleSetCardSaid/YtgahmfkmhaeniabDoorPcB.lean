import Derived.Test.YtgahmfkmhaeniabDoorPairsI
import Derived.Test.YtgahmfkmhaeniabDoorEqF
import Derived.Test.YtgahmfkmhaeniabDoorHeld
import Derived.Shelf.Abstract
import Derived.Shelf.Lay
import Derived.Test.YtgahmfkmhaeniabDoorRkF
import Derived.Test.YtgahmfkmhaeniabDoorProg
import Derived.Test.YtgahmfkmhaeniabDoorOwn
import Derived.Test.YtgahmfkmhaeniabDoorSpF
import Derived.Test.YtgahmfkmhaeniabDoorBlk
import Derived.Test.YtgahmfkmhaeniabDoorTblI
import Derived.Test.YtgahmfkmhaeniabDoorRowsI
import Derived.WalkSpells
import Derived.Test.YtgahmfkmhaeniabDoorRowsS
import Derived.Test.YtgahmfkmhaeniabDoorTblS
import Derived.Test.YtgahmfkmhaeniabDoorPrmS
import Derived.Test.YtgahmfkmhaeniabDoorObj
import Derived.Test.YtgahmfkmhaeniabDoorReads
import Derived.Test.YtgahmfkmhaeniabDoorLst2
import Derived.Test.YtgahmfkmhaeniabDoorPtbI
import Derived.Test.YtgahmfkmhaeniabDoorPtbS
namespace Go.Proofs.YtgahmfkmhaeniabDoor
open Go Go.RowKit

/-- What is asked of the function value: for each three elements, in each later world, it says whether they are as asked, and leaves what there was. -/
def BoolFn3 (P : Program) (F : FuncId) (lb : Array Value) (n : Nat) (q : Nat → Nat → Nat → Bool) (w : World) : Prop :=
  ∀ (W : World) (x y z : Nat), x < n → y < n → z < n → Below w.heap.size w W → Calls P F (#[.int .i64 x, .int .i64 y, .int .i64 z] ++ lb) W fun e w' => e = .returned (.bool (q x y z)) ∧ Below W.heap.size W w'
theorem BoolFn3.later {P : Program} {F : FuncId} {lb : Array Value} {n : Nat} {q : Nat → Nat → Nat → Bool} {w w' : World} (hc : BoolFn3 P F lb n q w) (hb : Below w.heap.size w w') : BoolFn3 P F lb n q w' :=
  fun W x y z hx hy hz hw => hc W x y z hx hy hz (hb.trans (hw.mono hb.size))

/-- What is said of the list of number T. -/
def qAt (q : Nat → Nat → Nat → Bool) (n T : Nat) : Bool := q (trip n T).1 (trip n T).2.1 (trip n T).2.2
theorem qAt_at {q : Nat → Nat → Nat → Bool} {n x y z : Nat} (hy : y < n) (hz : z < n) : qAt q n ((x * n + y) * n + z) = q x y z := by
  unfold qAt
  rw [trip_of hy hz]
/-- T is the first that is as asked, or behind all. -/
def FirstQ (q : Nat → Nat → Nat → Bool) (n T : Nat) : Prop := (∀ i, i < T → qAt q n i = false) ∧ T ≤ n * n * n ∧ (T < n * n * n → qAt q n T = true)
theorem FirstQ.bad {q : Nat → Nat → Nat → Bool} {n T k : Nat} (h : FirstQ q n T) (h1 : ∀ i, i < k → qAt q n i = false) (hk : k < n * n * n) (h2 : qAt q n k = true) : T = k := by
  have a : ¬ k < T := fun h3 => by have := h.1 k h3; rw [h2] at this; exact absurd this (by simp)
  have b : ¬ T < k := fun h3 => by have := h1 T h3; rw [h.2.2 (by omega)] at this; exact absurd this (by simp)
  omega
theorem FirstQ.all {q : Nat → Nat → Nat → Bool} {n T : Nat} (h : FirstQ q n T) (h1 : ∀ i, i < n * n * n → qAt q n i = false) : T = n * n * n := by
  have a := h.2.1
  have b : ¬ T < n * n * n := fun h3 => by have := h1 T h3; rw [h.2.2 h3] at this; exact absurd this (by simp)
  omega
theorem FirstQ.ex (q : Nat → Nat → Nat → Bool) (n : Nat) : ∃ T, FirstQ q n T := by
  have h : ∀ k, k ≤ n * n * n → (∀ i, i < k → qAt q n i = false) ∨ ∃ T, FirstQ q n T := by
    intro k
    induction k with
    | zero => intro _; exact .inl (fun i hi => absurd hi (Nat.not_lt_zero _))
    | succ k ih =>
      intro hk
      rcases ih (by omega) with h | h
      · rcases e : qAt q n k with _ | _
        · refine .inl (fun i hi => ?_)
          by_cases e2 : i = k
          · subst e2; exact e
          · exact h i (by omega)
        · exact .inr ⟨k, h, by omega, fun _ => e⟩
      · exact .inr h
  rcases h _ (Nat.le_refl _) with h | h
  · exact ⟨_, h, Nat.le_refl _, fun h2 => absurd h2 (by omega)⟩
  · exact h
theorem FirstQ.iff {q : Nat → Nat → Nat → Bool} {n T : Nat} (h : FirstQ q n T) : T = n * n * n ↔ ∀ i, i < n * n * n → qAt q n i = false :=
  ⟨fun e i hi => h.1 i (by omega), h.all⟩
end Go.Proofs.YtgahmfkmhaeniabDoor
namespace Go.Proofs.YtgahmfkmhaeniabDoor
open Go Go.RowKit
def kinkL (f : List (List Int)) : List Int := (List.range f.length).map fun (x : Nat) => ((ap f x x : Nat) : Int)
theorem kinkL_length (f : List (List Int)) : (kinkL f).length = f.length := by simp [kinkL]
theorem kinkL_getD (f : List (List Int)) (k : Nat) (h : k < f.length) : (kinkL f).getD k 0 = ((ap f k k : Nat) : Int) := by simp [kinkL, h]
def KinkRes (f : List (List Int)) (zs : List Int) (code : Int) : Prop := (Rck f ∧ zs = kinkL f ∧ code = 0) ∨ (¬ Rck f ∧ zs = [] ∧ code = 1)
theorem KinkRes.ex (f : List (List Int)) : ∃ zs code, KinkRes f zs code ∧ zs.length ≤ 1048576 := by
  by_cases h : Rck f
  · exact ⟨_, _, .inl ⟨h, rfl, rfl⟩, by rw [kinkL_length]; have := h.tbl.2.1; omega⟩
  · exact ⟨_, _, .inr ⟨h, rfl, rfl⟩, by simp⟩
theorem kq_take (zs : List Int) (k : Nat) (y : Int) (h : k < zs.length) (hy : zs.getD k 0 = y) : ints (zs.take k) ++ [.int .i64 y] = ints (zs.take (k + 1)) := by
  rw [List.take_succ_eq_append_getElem h]
  have : zs[k] = y := by simpa [h] using hy
  simp [ints, this]
theorem kq_empty (w : World) (t : TypeId) : (w.alloc (.cells #[] t)).ownsRow w.heap.size t 1 (.slice (some ⟨w.heap.size, 0, none⟩) 0 0) 0 [] :=
  ⟨by simp, .inr ⟨w.heap.size, 0, #[], rfl, Nat.le_refl _, heap_alloc_new _ _, Nat.le_refl _, by unfold maxLen; omega, by simp, by simp⟩⟩
theorem kq_new {w : World} {v : Value} {t : TypeId} : ∀ j u, [v][j]? = some u → (w.alloc (.cells #[v] t)).cell? ((⟨w.heap.size, 0, none⟩ : Addr).add j) = some u := by
  intro j u hj
  match j, hj with
  | 0, hj => simp at hj; subst hj; simp [Addr.add, World.cell?_alloc_new]
theorem kqInfo : (Tryd.prog.info? 2).map (fun i => (i.zero, i.size, i.bytes)) = some (some (.int .i64 0), 1, 8) := by kernel_rfl
/-- The last lines of a row that was filled from the front. -/
theorem kq_fill (zs : List Int) (n k : Nat) (hz : zs.length = n) (hk : k < n) : ((zs.take k ++ List.replicate (n - k) 0).set k (zs.getD k 0)) = zs.take (k + 1) ++ List.replicate (n - (k + 1)) 0 := by
  apply List.ext_getElem
  · simp; omega
  · intro i h1 h2
    simp only [List.getElem_set, List.getElem_append, List.length_take, List.getElem_take, List.getElem_replicate]
    by_cases e : k = i
    · subst e
      rw [if_pos rfl, dif_pos (by omega)]
      simp [show k < zs.length by omega]
    · rw [if_neg e]
      by_cases e2 : i < k
      · rw [dif_pos (by omega), dif_pos (by omega)]
      · rw [dif_neg (by omega), dif_neg (by omega)]
end Go.Proofs.YtgahmfkmhaeniabDoor
namespace Go.Proofs.YtgahmfkmhaeniabDoor
open Go Go.RowKit
/-- Whether three elements show that a dot table is no cycle set. -/
def cyq (f : List (List Int)) : Nat → Nat → Nat → Bool := fun x y z => !decide (ap f (ap f x y) (ap f x z) = ap f (ap f y x) (ap f y z))
/-- What a cycle set is. -/
def Cyc (f : List (List Int)) : Prop := (Tbl f ∧ AllPrm f) ∧ Prm (kinkL f) ∧ ∀ i, i < f.length * f.length * f.length → qAt (cyq f) f.length i = false
theorem Cyc.tbl {f : List (List Int)} (h : Cyc f) : Tbl f := h.1.1
theorem Cyc.prm {f : List (List Int)} (h : Cyc f) : AllPrm f := h.1.2
theorem Cyc.le {f : List (List Int)} (h : Cyc f) : f.length ≤ 12 := h.tbl.2.1
def CyRes (f : List (List Int)) (r : Bool) : Prop := r = true ↔ Cyc f
theorem CyRes.ex (f : List (List Int)) : ∃ r, CyRes f r := bool_of _
def CyFRes (f : List (List Int)) (zs : List Int) (code : Int) : Prop :=
  (∃ T, Tbl f ∧ FirstQ (cyq f) f.length T ∧ ((T < f.length * f.length * f.length ∧ zs = lst3 (trip f.length T) ∧ code = 0) ∨ (T = f.length * f.length * f.length ∧ zs = [] ∧ code = 4))) ∨ (¬ Tbl f ∧ zs = [] ∧ code = 1)
theorem CyFRes.ex (f : List (List Int)) : ∃ zs code, CyFRes f zs code ∧ zs.length ≤ 1048576 := by
  by_cases h : Tbl f
  · obtain ⟨T, hT⟩ := FirstQ.ex (cyq f) f.length
    by_cases h2 : T < f.length * f.length * f.length
    · exact ⟨_, _, .inl ⟨T, h, hT, .inl ⟨h2, rfl, rfl⟩⟩, by simp [lst3]⟩
    · exact ⟨_, _, .inl ⟨T, h, hT, .inr ⟨by have := hT.2.1; omega, rfl, rfl⟩⟩, by simp⟩
  · exact ⟨_, _, .inr ⟨h, rfl, rfl⟩, by simp⟩
def DqRes (f : List (List Int)) (zs : List Int) (code : Int) : Prop := (Tbl f ∧ zs = kinkL f ∧ code = 0) ∨ (¬ Tbl f ∧ zs = [] ∧ code = 1)
theorem DqRes.ex (f : List (List Int)) : ∃ zs code, DqRes f zs code ∧ zs.length ≤ 1048576 := by
  by_cases h : Tbl f
  · exact ⟨_, _, .inl ⟨h, rfl, rfl⟩, by rw [kinkL_length]; have := h.2.1; omega⟩
  · exact ⟨_, _, .inr ⟨h, rfl, rfl⟩, by simp⟩
end Go.Proofs.YtgahmfkmhaeniabDoor
namespace Go.Proofs.YtgahmfkmhaeniabDoor
open Go Go.RowKit
def PcRes (s : ByteArray) (zs : List (List Int)) (code : Int) : Prop := ((AllP s ∧ Cyc (rowsL s)) ∧ zs = rowsL s ∧ code = 0) ∨ (¬ (AllP s ∧ Cyc (rowsL s)) ∧ zs = [] ∧ code = 6)
theorem PcRes.ex (s : ByteArray) : ∃ zs code, PcRes s zs code ∧ zs.length ≤ 1048576 ∧ ∀ i, i < zs.length → (zs.getD i []).length ≤ 1048576 := by
  by_cases h : AllP s ∧ Cyc (rowsL s)
  · refine ⟨_, _, .inl ⟨h, rfl, rfl⟩, by have := h.2.tbl.2.1; omega, fun i hi => ?_⟩
    have h1 := h.2.tbl.row_len rfl hi
    have := h.2.tbl.2.1
    omega
  · exact ⟨_, _, .inr ⟨h, rfl, rfl⟩, by simp, fun i hi => by simp at hi⟩
theorem nil_not_cyc : ¬ Cyc [] := fun h => by have := h.tbl.1; simp at this
theorem PtRes.cyc {s : ByteArray} {zs : List (List Int)} {code : Int} (h : PtRes s zs code) : Cyc zs ↔ (AllP s ∧ Cyc (rowsL s)) := by
  rcases h with ⟨h1, rfl, _⟩ | ⟨h1, rfl, _⟩
  · exact ⟨fun h => ⟨h1.1, h⟩, fun h => h.2⟩
  · exact ⟨fun h => absurd h nil_not_cyc, fun h => absurd ⟨h.1, h.2.tbl⟩ h1⟩
theorem PtRes.eqc {s : ByteArray} {zs : List (List Int)} {code : Int} (h : PtRes s zs code) (hr : AllP s ∧ Cyc (rowsL s)) : zs = rowsL s ∧ code = 0 := by
  rcases h with ⟨h1, h2, h3⟩ | ⟨h1, _, _⟩
  · exact ⟨h2, h3⟩
  · exact absurd ⟨hr.1, hr.2.tbl⟩ h1
end Go.Proofs.YtgahmfkmhaeniabDoor
namespace Go.Proofs.YtgahmfkmhaeniabDoor
open Go Go.RowKit
set_option maxHeartbeats 2000000

set_option maxRecDepth 100000 in
theorem firstTriple_any (F : FuncId) (lb : Array Value) (n : Nat) (q : Nat → Nat → Nat → Bool) (T : Nat) (w : World) (eg : ∀ args w, (callFunc F args).run Tryd.prog w = .ok (.enter F args) w) (h1 : 1 ≤ n) (h12 : n ≤ 12) (hp : BoolFn3 Tryd.prog F lb n q w) (hT : FirstQ q n T) :
    Calls Tryd.prog 46 #[.int .i64 n, .func (.func F) #[] lb] w fun e w' => (T = n * n * n ∧ e = .returned (.slice none 0 0) ∧ Below w.heap.size w w') ∨ (T < n * n * n ∧ ∃ g, e = .returned (.slice (some ⟨g, 0, none⟩) 3 3) ∧ Below w.heap.size w w' ∧ w.heap.size ≤ g ∧ OwnB 2 w' g (lst3 (trip n T))) := by
  have HPF := hide hp
  have HT := hide hT
  obtain ⟨N, hN⟩ : ∃ N, n * n = N := ⟨_, rfl⟩
  have hN144 : N ≤ 144 := by rw [← hN]; exact sq_le n h12
  have HNN := hide hN
  clear hT hN hp
  go_enter Tryd.func46, Tryd.ntmps46
  go_wp2_with fail
  refine (pairsOf_any n N _ h1 h12 HNN.out).mono ?_
  rintro e w3 ⟨g, rfl, hb3, hg3, hpa⟩
  have HB3 := hide hb3
  have HPA3 := hide hpa
  clear hb3 hpa
  go_wp2_with fail
  go_loopw [11] (fun i wr => ∃ k : Nat, k ≤ N ∧ i = .int .i64 k ∧ Below w.heap.size w wr ∧ PairsAt wr g n ∧ ∀ i, i < k * n → qAt q n i = false) (fun i _ => N - (intOf i).toNat)
  case atStart => exact ⟨0, Nat.zero_le _, rfl, HB3.out, HPA3.out, fun i hi => absurd hi (by omega)⟩
  case round =>
    obtain ⟨k, hk, rfl, hbe, hpa, hall⟩ := hrel
    have HB := hide hbe
    have HPA := hide hpa
    have HALL := hide hall
    clear hbe hpa hall
    by_cases hlt : k < N
    · have hkz : (k : Int) < N := by omega
      obtain ⟨p0, p1⟩ := HPA.out.2 k (by rw [HNN.out]; exact hlt)
      have hxn : k / n < n := div_lt_sq (by rw [HNN.out]; exact hlt)
      have hyn : k % n < n := mod_lt_sq (by rw [HNN.out]; exact hlt)
      obtain ⟨x, hx⟩ : ∃ x, k / n = x := ⟨_, rfl⟩
      obtain ⟨y, hy⟩ : ∃ y, k % n = y := ⟨_, rfl⟩
      rw [hx] at p0 hxn
      rw [hy] at p1 hyn
      have HX := hide hx
      have HY := hide hy
      clear hx hy
      go_wp2_with fail
      refine wp_gen fun w4 hw4 => ?_
      obtain ⟨P, hPe⟩ : ∃ P, wr.heap.size = P := ⟨_, rfl⟩
      have HB4 : Hid (Below w.heap.size w w4) := hide (by rw [hw4]; exact HB.out.alloc HB.out.size _)
      have HP4 : Hid (Blk w4 P 70 [.int .i64 x, .int .i64 y]) := hide (by rw [hw4, ← hPe]; exact Blk.new _ _ _)
      have HA4 : Hid (PairsAt w4 g n) := hide (by rw [hw4]; exact HPA.out.later ((Below.refl _ _).alloc (Nat.le_refl _) _))
      rw [hPe]
      clear hw4 p0 p1 hPe
      go_loopw [16] (fun i wi => ∃ z : Nat, z ≤ n ∧ i = .int .i64 z ∧ Below w.heap.size w wi ∧ Blk wi P 70 [.int .i64 x, .int .i64 y] ∧ PairsAt wi g n ∧ ∀ i, i < k * n + z → qAt q n i = false) (fun i _ => n - (intOf i).toNat)
      case atStart => exact ⟨0, Nat.zero_le _, rfl, HB4.out, HP4.out, HA4.out, HALL.out⟩
      case round =>
        obtain ⟨z, hzn, rfl, hbe, hpp, hpa, hall⟩ := hrel
        have HBc := hide hbe
        have HPc := hide hpp
        have HAc := hide hpa
        have HALLI := hide hall
        clear hbe hpp hpa hall
        by_cases hltz : z < n
        · have hzz : (z : Int) < n := by omega
          have hklt : k * n + z < n * n * n := by
            have h := trip_lt (n := n) hxn hyn hltz
            rw [← HX.out, ← HY.out, pair_eta] at h
            exact h
          have hat : qAt q n (k * n + z) = q x y z := by
            have h := qAt_at (q := q) (n := n) (x := x) hyn hltz
            rw [← HX.out, ← HY.out, pair_eta] at h
            rw [← HX.out, ← HY.out]
            exact h
          have htr : trip n (k * n + z) = (x, y, z) := by
            have h := trip_of (n := n) (x := x) hyn hltz
            rw [← HX.out, ← HY.out, pair_eta, HX.out, HY.out] at h
            exact h
          have HTR := hide htr
          have HKL := hide hklt
          clear htr hklt
          obtain ⟨bq, hbq⟩ : ∃ b, q x y z = b := ⟨_, rfl⟩
          rw [hbq] at hat
          have HAT := hide hat
          have HBQ := hide hbq
          clear hat hbq
          have k0 := HPc.out.cell 0 _ rfl
          have k1 := HPc.out.cell 1 _ rfl
          cases bq with
          | false =>
            go_wp2_with (go_at_fn F; go_must (refine calls_gen fun wc hwc => ?_; (first | have hbx := drew_below hwc | have hbx := eq_below hwc); replace HBc := hide (HBc.out.trans (hbx.mono HBc.out.size)); replace HPc := hide (HPc.out.later hbx); replace HAc := hide (HAc.out.later hbx); clear hwc hbx; refine (HPF.out _ x y z hxn hyn hltz HBc.out).mono ?_; rw [HBQ.out]; rintro e wd ⟨rfl, hbd⟩; replace HBc := hide (HBc.out.trans (hbd.mono HBc.out.size)); replace HPc := hide (HPc.out.later hbd); replace HAc := hide (HAc.out.later hbd); clear hbd; have k0 := HPc.out.cell 0 _ rfl; have k1 := HPc.out.cell 1 _ rfl; clear k0 k1))
            clear k0 k1
            go_wp2_with fail
            go_roundw
            case rel => exact ⟨z + 1, by omega, by go_num, HBc.out, HPc.out, HAc.out, fun i hi => by
              by_cases e : i = k * n + z
              · rw [e]; exact HAT.out
              · exact HALLI.out i (by omega)⟩
            case measure => simp [intOf]; omega
          | true =>
            have HTB2 := hide (HT.out.bad HALLI.out HKL.out HAT.out)
            go_wp2_with (go_at_fn F; go_must (refine calls_gen fun wc hwc => ?_; (first | have hbx := drew_below hwc | have hbx := eq_below hwc); replace HBc := hide (HBc.out.trans (hbx.mono HBc.out.size)); replace HPc := hide (HPc.out.later hbx); replace HAc := hide (HAc.out.later hbx); clear hwc hbx; refine (HPF.out _ x y z hxn hyn hltz HBc.out).mono ?_; rw [HBQ.out]; rintro e wd ⟨rfl, hbd⟩; replace HBc := hide (HBc.out.trans (hbd.mono HBc.out.size)); replace HPc := hide (HPc.out.later hbd); replace HAc := hide (HAc.out.later hbd); clear hbd; have k0 := HPc.out.cell 0 _ rfl; have k1 := HPc.out.cell 1 _ rfl; have k2 := fun o => (HPc.out.alloc o).cell 0 _ rfl; have k3 := fun o => (HPc.out.alloc o).cell 1 _ rfl))
            clear k0 k1
            go_wp2_with fail
            refine bp_gen fun wf hwf => ?_
            have HBF : Below w.heap.size w wf := by rw [hwf]; exact HBc.out.alloc HBc.out.size _
            have HLF : Hid (Blk wf wd.heap.size 2 [.int .i64 x, .int .i64 y, .int .i64 z]) := hide (by rw [hwf]; exact Blk.new _ _ _)
            have hlo : w.heap.size ≤ wd.heap.size := HBc.out.size
            clear hwf
            go_ret
            exact .inr ⟨by rw [HTB2.out]; exact HKL.out, _, rfl, HBF, hlo, _, HLF.out, fun i hi => by
              rw [HTB2.out, HTR.out] at hi ⊢
              simp [lst3] at hi
              rcases i with _ | _ | _ | i
              · rfl
              · rfl
              · rfl
              · omega⟩
        · have hzn' : z = n := by omega
          subst hzn'
          go_wp2_with fail
          go_roundw
          case rel => exact ⟨k + 1, by omega, by go_num, HBc.out, HAc.out, fun i hi => HALLI.out i (by rw [Nat.add_mul, Nat.one_mul] at hi; exact hi)⟩
          case measure => simp [intOf]; omega
    · have hkn : k = N := by omega
      subst hkn
      go_wp2_with fail
      go_ret
      exact .inl ⟨HT.out.all (fun i hi => HALL.out i (by rw [HNN.out] at hi; exact hi)), rfl, HB.out⟩
end Go.Proofs.YtgahmfkmhaeniabDoor
namespace Go.Proofs.YtgahmfkmhaeniabDoor
open Go Go.RowKit
set_option maxHeartbeats 2000000

theorem dsize_any (A : Option Addr) (n c : Nat) (w : World) (_hn : n ≤ 1048576) :
    Calls Tryd.prog 44 #[.slice A n c] w fun e w' => e = .returned (.int .i64 n) ∧ Below w.heap.size w w' := by
  go_enter Tryd.func44, Tryd.ntmps44
  go_wp2_with fail
  go_ret
  exact ⟨rfl, Below.refl _ _⟩

theorem dot_any (A : Option Addr) (n c : Nat) (f : List (List Int)) (x y u : Nat) (w : World) (hn : f.length = n) (ht : Tbl f) (hr : Rd2 w A f) (hx : x < n) (hy : y < n) (hu : ap f x y = u) :
    Calls Tryd.prog 45 #[.slice A n c, .int .i64 x, .int .i64 y] w fun e w' => e = .returned (.int .i64 u) ∧ Below w.heap.size w w' := by
  have h12 : n ≤ 12 := by rw [← hn]; exact ht.2.1
  obtain ⟨b, o, rfl, hb, hc⟩ := ht.cells hr hn
  obtain ⟨bx, ox, cx, h1, h2, h3⟩ := hc x hx
  have h4 := h3 y hy
  rw [hu] at h4
  have hxz : (x : Int) < n := by omega
  have hyz : (y : Int) < n := by omega
  have hxz0 : (0 : Int) ≤ x := by omega
  have hyz0 : (0 : Int) ≤ y := by omega
  clear hc hu hr ht hn h3
  go_enter Tryd.func45, Tryd.ntmps45
  go_wp2_with fail
  go_ret
  exact ⟨rfl, Below.refl _ _⟩

set_option maxRecDepth 100000 in
theorem squares_any (A : Option Addr) (n c : Nat) (f : List (List Int)) (w : World) (hn : f.length = n) (ht : Tbl f) (hr : Rd2 w A f) :
    Calls Tryd.prog 35 #[.slice A n c] w fun e w' => ∃ g, e = .returned (.slice (some ⟨g, 0, none⟩) n n) ∧ Below w.heap.size w w' ∧ w.heap.size ≤ g ∧ OwnB 2 w' g (kinkL f) := by
  have h1 : 1 ≤ n := by rw [← hn]; exact ht.1
  have h12 : n ≤ 12 := by rw [← hn]; exact ht.2.1
  have HN := hide hn
  have HTB := hide ht
  have HR := hide hr
  have HZ : Hid ((kinkL f).length = n) := hide ((kinkL_length f).trans hn)
  have hmk := run_make_row' (P := Tryd.prog) 54 2 (.int .i64 0) 8 Tryd.underlying54 kqInfo rfl .i64 .i64 n (by omega) (by omega)
  clear hn ht hr
  go_enter Tryd.func35, Tryd.ntmps35
  go_wp2_with fail
  refine (dsize_any _ _ _ _ (by omega)).mono ?_
  rintro e w0 ⟨rfl, hb0⟩
  have HB0 := hide hb0
  clear hb0
  go_wp2_with fail
  clear hmk
  refine calls_gen fun w1 hw1 => ?_
  have HB1 : Hid (Below w.heap.size w w1) := hide (by rw [hw1]; exact HB0.out.alloc HB0.out.size _)
  obtain ⟨G, hG⟩ : ∃ G, w0.heap.size = G := ⟨_, rfl⟩
  have hgw : w.heap.size ≤ G := by have := HB0.out.size; omega
  have HROW1 : Hid (Row 2 w1 G (List.replicate n 0)) := hide (by rw [hw1, ← hG]; simpa using Row.made 2 w0 n)
  rw [hG]
  clear hw1 hG
  refine (dsize_any _ _ _ _ (by omega)).mono ?_
  rintro e w2 ⟨rfl, hb2⟩
  have HB2 := hide (HB1.out.trans (hb2.mono HB1.out.size))
  have HROW2 := hide (HROW1.out.own.later hb2 HROW1.out.own.lt)
  clear hb2
  go_wp2_with fail
  go_loopw [10] (fun i wr => ∃ k : Nat, k ≤ n ∧ i = .int .i64 k ∧ Below w.heap.size w wr ∧ OwnB 2 wr G ((kinkL f).take k ++ List.replicate (n - k) 0)) (fun i _ => n - (intOf i).toNat)
  case atStart => exact ⟨0, Nat.zero_le _, rfl, HB2.out, by simpa using HROW2.out⟩
  case round =>
    obtain ⟨k, hk, rfl, hbe, hrow⟩ := hrel
    have HBc := hide hbe
    have HOc := hide hrow
    clear hbe hrow
    by_cases hlt : k < n
    · have hltz : (k : Int) < n := by omega
      obtain ⟨u, hu⟩ : ∃ u, ap f k k = u := ⟨_, rfl⟩
      have HU := hide hu
      have hl : ((kinkL f).take k ++ List.replicate (n - k) 0).length = n := by have := HZ.out; simp; omega
      have HL := hide hl
      clear hu hl
      go_wp2_with fail
      refine (dot_any _ _ _ f k k u _ HN.out HTB.out (HR.out.later HBc.out) hlt hlt HU.out).mono ?_
      rintro e wd ⟨rfl, hbd⟩
      have HBd := hide (HBc.out.trans (hbd.mono HBc.out.size))
      have HOd := hide (HOc.out.later hbd HOc.out.lt)
      clear hbd
      have h2 := HOd.out.cell (i := k) (by have := HL.out; omega)
      have h3 := HOd.out.frozen k
      go_wp2_with fail
      go_roundw
      case rel =>
        have hst := HOd.out.set k (u : Int) (by have := HL.out; omega)
        have hg : (kinkL f).getD k 0 = (u : Int) := by rw [kinkL_getD f k (by have := HN.out; omega), HU.out]
        rw [← hg, kq_fill (kinkL f) n k HZ.out hlt, hg] at hst
        exact ⟨k + 1, by omega, by go_num, HBd.out.setCell (p := ⟨G, k, none⟩) hgw _, hst⟩
      case measure => simp [intOf]; omega
    · have hkn : k = n := by omega
      subst hkn
      go_wp2_with fail
      go_ret
      have h := HOc.out
      have hz := HZ.out
      rw [Nat.sub_self, List.replicate_zero, List.append_nil, List.take_of_length_le (by omega)] at h
      exact ⟨_, rfl, HBc.out, hgw, h⟩
end Go.Proofs.YtgahmfkmhaeniabDoor
namespace Go.Proofs.YtgahmfkmhaeniabDoor
open Go Go.RowKit
set_option maxHeartbeats 2000000

set_option maxRecDepth 100000 in
theorem dfC_any (A : Option Addr) (n c : Nat) (f : List (List Int)) (b : Nat) (w : World) (hn : f.length = n) (ht : Tbl f) (hr : Rd2 w A f) (hk : Blk w b 46 [.slice A n c]) :
    BoolFn3 Tryd.prog 47 #[.pointer (some ⟨b, 0, none⟩)] n (cyq f) w := by
  intro W x y z hx hy hz hb
  have HR := hide (hr.later hb)
  have HKc := hide (hk.later hb)
  have HBc := hide (Below.refl W.heap.size W)
  have HN := hide hn
  have HTB := hide ht
  show Calls Tryd.prog 47 #[.int .i64 x, .int .i64 y, .int .i64 z, .pointer (some ⟨b, 0, none⟩)] W _
  clear hn ht hr hk hb
  have hq1 := HTB.out.ap_lt HN.out hx hy
  have hq3 := HTB.out.ap_lt HN.out hy hx
  have hq2 := HTB.out.ap_lt HN.out hx hz
  have hq4 := HTB.out.ap_lt HN.out hy hz
  obtain ⟨bq, hat⟩ : ∃ bq, cyq f x y z = bq := ⟨_, rfl⟩
  rw [hat]
  unfold cyq at hat
  obtain ⟨q1, h_1⟩ : ∃ u, ap f x y = u := ⟨_, rfl⟩
  obtain ⟨q2, h_2⟩ : ∃ u, ap f x z = u := ⟨_, rfl⟩
  obtain ⟨q3, h_3⟩ : ∃ u, ap f y x = u := ⟨_, rfl⟩
  obtain ⟨q4, h_4⟩ : ∃ u, ap f y z = u := ⟨_, rfl⟩
  rw [h_1, h_2, h_3, h_4] at hat
  rw [h_1] at hq1
  rw [h_2] at hq2
  rw [h_3] at hq3
  rw [h_4] at hq4
  obtain ⟨q5, h_5⟩ : ∃ u, ap f q1 q2 = u := ⟨_, rfl⟩
  obtain ⟨q6, h_6⟩ : ∃ u, ap f q3 q4 = u := ⟨_, rfl⟩
  rw [h_5, h_6] at hat
  have HAT : Hid ((!decide (q5 = q6)) = bq) := hide hat
  have U1 := hide h_1
  have U2 := hide h_2
  have U3 := hide h_3
  have U4 := hide h_4
  have U5 := hide h_5
  have U6 := hide h_6
  clear h_1 h_2 h_3 h_4 h_5 h_6 hat
  have k0 := HKc.out.cell 0 _ rfl
  have tok0 : True := trivial
  have tok1 : True := trivial
  have tok2 : True := trivial
  have tok3 : True := trivial
  have tok4 : True := trivial
  go_enter Tryd.func47, Tryd.ntmps47
  by_cases hcs : q5 = q6
  · have hbq : bq = false := by rw [← HAT.out, hcs]; simp
    subst hcs
    subst hbq
    go_wp2_with fail
    go_region_held3 (fun w' => w'.cell? ⟨b, 0, none⟩ = some (.slice A n c)) (first | exact k0 | go_keep) (first | (go_at_call 45; have _t := tok0; clear _t tok0; go_must (refine calls_gen fun wc hwc => ?_; (first | have hbx := drew_below hwc | have hbx := eq_below hwc); replace HBc := hide (HBc.out.trans (hbx.mono HBc.out.size)); replace HKc := hide (HKc.out.later hbx); clear hwc hbx; refine (dot_any _ _ _ f x y q1 _ HN.out HTB.out (HR.out.later HBc.out) hx hy U1.out).mono ?_; rintro e wd ⟨rfl, hbd⟩; replace HBc := hide (HBc.out.trans (hbd.mono HBc.out.size)); replace HKc := hide (HKc.out.later hbd); clear hbd; have k0 := HKc.out.cell 0 _ rfl)) | (go_at_call 45; have _t := tok1; clear _t tok1; go_must (refine calls_gen fun wc hwc => ?_; (first | have hbx := drew_below hwc | have hbx := eq_below hwc); replace HBc := hide (HBc.out.trans (hbx.mono HBc.out.size)); replace HKc := hide (HKc.out.later hbx); clear hwc hbx; refine (dot_any _ _ _ f x z q2 _ HN.out HTB.out (HR.out.later HBc.out) hx hz U2.out).mono ?_; rintro e wd ⟨rfl, hbd⟩; replace HBc := hide (HBc.out.trans (hbd.mono HBc.out.size)); replace HKc := hide (HKc.out.later hbd); clear hbd; have k0 := HKc.out.cell 0 _ rfl)) | (go_at_call 45; have _t := tok2; clear _t tok2; go_must (refine calls_gen fun wc hwc => ?_; (first | have hbx := drew_below hwc | have hbx := eq_below hwc); replace HBc := hide (HBc.out.trans (hbx.mono HBc.out.size)); replace HKc := hide (HKc.out.later hbx); clear hwc hbx; refine (dot_any _ _ _ f q1 q2 q5 _ HN.out HTB.out (HR.out.later HBc.out) hq1 hq2 U5.out).mono ?_; rintro e wd ⟨rfl, hbd⟩; replace HBc := hide (HBc.out.trans (hbd.mono HBc.out.size)); replace HKc := hide (HKc.out.later hbd); clear hbd; have k0 := HKc.out.cell 0 _ rfl)) | (go_at_call 45; have _t := tok3; clear _t tok3; go_must (refine calls_gen fun wc hwc => ?_; (first | have hbx := drew_below hwc | have hbx := eq_below hwc); replace HBc := hide (HBc.out.trans (hbx.mono HBc.out.size)); replace HKc := hide (HKc.out.later hbx); clear hwc hbx; refine (dot_any _ _ _ f y x q3 _ HN.out HTB.out (HR.out.later HBc.out) hy hx U3.out).mono ?_; rintro e wd ⟨rfl, hbd⟩; replace HBc := hide (HBc.out.trans (hbd.mono HBc.out.size)); replace HKc := hide (HKc.out.later hbd); clear hbd; have k0 := HKc.out.cell 0 _ rfl)) | (go_at_call 45; have _t := tok4; clear _t tok4; go_must (refine calls_gen fun wc hwc => ?_; (first | have hbx := drew_below hwc | have hbx := eq_below hwc); replace HBc := hide (HBc.out.trans (hbx.mono HBc.out.size)); replace HKc := hide (HKc.out.later hbx); clear hwc hbx; refine (dot_any _ _ _ f y z q4 _ HN.out HTB.out (HR.out.later HBc.out) hy hz U4.out).mono ?_; rintro e wd ⟨rfl, hbd⟩; replace HBc := hide (HBc.out.trans (hbd.mono HBc.out.size)); replace HKc := hide (HKc.out.later hbd); clear hbd; have k0 := HKc.out.cell 0 _ rfl)) | (go_at_call 45; go_must (refine calls_gen fun wc hwc => ?_; (first | have hbx := drew_below hwc | have hbx := eq_below hwc); replace HBc := hide (HBc.out.trans (hbx.mono HBc.out.size)); replace HKc := hide (HKc.out.later hbx); clear hwc hbx; refine (dot_any _ _ _ f q3 q4 q5 _ HN.out HTB.out (HR.out.later HBc.out) hq3 hq4 U6.out).mono ?_; rintro e wd ⟨rfl, hbd⟩; replace HBc := hide (HBc.out.trans (hbd.mono HBc.out.size)); replace HKc := hide (HKc.out.later hbd); clear hbd; have k0 := HKc.out.cell 0 _ rfl)))
    go_wp2_with fail
    go_ret
    exact ⟨rfl, HBc.out⟩
  · have hbq : bq = true := by rw [← HAT.out]; simp [hcs]
    have hcz : ((q5 : Int) != (q6 : Int)) = true := by rw [bne_iff_ne]; omega
    subst hbq
    go_wp2_with fail
    go_region_held3 (fun w' => w'.cell? ⟨b, 0, none⟩ = some (.slice A n c)) (first | exact k0 | go_keep) (first | (go_at_call 45; have _t := tok0; clear _t tok0; go_must (refine calls_gen fun wc hwc => ?_; (first | have hbx := drew_below hwc | have hbx := eq_below hwc); replace HBc := hide (HBc.out.trans (hbx.mono HBc.out.size)); replace HKc := hide (HKc.out.later hbx); clear hwc hbx; refine (dot_any _ _ _ f x y q1 _ HN.out HTB.out (HR.out.later HBc.out) hx hy U1.out).mono ?_; rintro e wd ⟨rfl, hbd⟩; replace HBc := hide (HBc.out.trans (hbd.mono HBc.out.size)); replace HKc := hide (HKc.out.later hbd); clear hbd; have k0 := HKc.out.cell 0 _ rfl)) | (go_at_call 45; have _t := tok1; clear _t tok1; go_must (refine calls_gen fun wc hwc => ?_; (first | have hbx := drew_below hwc | have hbx := eq_below hwc); replace HBc := hide (HBc.out.trans (hbx.mono HBc.out.size)); replace HKc := hide (HKc.out.later hbx); clear hwc hbx; refine (dot_any _ _ _ f x z q2 _ HN.out HTB.out (HR.out.later HBc.out) hx hz U2.out).mono ?_; rintro e wd ⟨rfl, hbd⟩; replace HBc := hide (HBc.out.trans (hbd.mono HBc.out.size)); replace HKc := hide (HKc.out.later hbd); clear hbd; have k0 := HKc.out.cell 0 _ rfl)) | (go_at_call 45; have _t := tok2; clear _t tok2; go_must (refine calls_gen fun wc hwc => ?_; (first | have hbx := drew_below hwc | have hbx := eq_below hwc); replace HBc := hide (HBc.out.trans (hbx.mono HBc.out.size)); replace HKc := hide (HKc.out.later hbx); clear hwc hbx; refine (dot_any _ _ _ f q1 q2 q5 _ HN.out HTB.out (HR.out.later HBc.out) hq1 hq2 U5.out).mono ?_; rintro e wd ⟨rfl, hbd⟩; replace HBc := hide (HBc.out.trans (hbd.mono HBc.out.size)); replace HKc := hide (HKc.out.later hbd); clear hbd; have k0 := HKc.out.cell 0 _ rfl)) | (go_at_call 45; have _t := tok3; clear _t tok3; go_must (refine calls_gen fun wc hwc => ?_; (first | have hbx := drew_below hwc | have hbx := eq_below hwc); replace HBc := hide (HBc.out.trans (hbx.mono HBc.out.size)); replace HKc := hide (HKc.out.later hbx); clear hwc hbx; refine (dot_any _ _ _ f y x q3 _ HN.out HTB.out (HR.out.later HBc.out) hy hx U3.out).mono ?_; rintro e wd ⟨rfl, hbd⟩; replace HBc := hide (HBc.out.trans (hbd.mono HBc.out.size)); replace HKc := hide (HKc.out.later hbd); clear hbd; have k0 := HKc.out.cell 0 _ rfl)) | (go_at_call 45; have _t := tok4; clear _t tok4; go_must (refine calls_gen fun wc hwc => ?_; (first | have hbx := drew_below hwc | have hbx := eq_below hwc); replace HBc := hide (HBc.out.trans (hbx.mono HBc.out.size)); replace HKc := hide (HKc.out.later hbx); clear hwc hbx; refine (dot_any _ _ _ f y z q4 _ HN.out HTB.out (HR.out.later HBc.out) hy hz U4.out).mono ?_; rintro e wd ⟨rfl, hbd⟩; replace HBc := hide (HBc.out.trans (hbd.mono HBc.out.size)); replace HKc := hide (HKc.out.later hbd); clear hbd; have k0 := HKc.out.cell 0 _ rfl)) | (go_at_call 45; go_must (refine calls_gen fun wc hwc => ?_; (first | have hbx := drew_below hwc | have hbx := eq_below hwc); replace HBc := hide (HBc.out.trans (hbx.mono HBc.out.size)); replace HKc := hide (HKc.out.later hbx); clear hwc hbx; refine (dot_any _ _ _ f q3 q4 q6 _ HN.out HTB.out (HR.out.later HBc.out) hq3 hq4 U6.out).mono ?_; rintro e wd ⟨rfl, hbd⟩; replace HBc := hide (HBc.out.trans (hbd.mono HBc.out.size)); replace HKc := hide (HKc.out.later hbd); clear hbd; have k0 := HKc.out.cell 0 _ rfl)))
    go_wp2_with fail
    go_ret
    exact ⟨rfl, HBc.out⟩

set_option maxRecDepth 100000 in
theorem dfault_any (A : Option Addr) (n c : Nat) (f : List (List Int)) (T : Nat) (w : World) (hn : f.length = n) (ht : Tbl f) (hr : Rd2 w A f) (hT : FirstQ (cyq f) n T) :
    Calls Tryd.prog 37 #[.slice A n c] w fun e w' => (T = n * n * n ∧ e = .returned (.slice none 0 0) ∧ Below w.heap.size w w') ∨ (T < n * n * n ∧ ∃ g, e = .returned (.slice (some ⟨g, 0, none⟩) 3 3) ∧ Below w.heap.size w w' ∧ w.heap.size ≤ g ∧ OwnB 2 w' g (lst3 (trip n T))) := by
  have h1 : 1 ≤ n := by rw [← hn]; exact ht.1
  have h12 : n ≤ 12 := by rw [← hn]; exact ht.2.1
  have HN := hide hn
  have HTB := hide ht
  have HR := hide hr
  have HT := hide hT
  have HB0 := hide ((Below.refl _ w).alloc (Nat.le_refl _) (Obj.cells #[Value.slice A n c] 46))
  have HK0 := hide (Blk.new w 46 [.slice A n c])
  clear hn ht hr hT
  go_enter Tryd.func37, Tryd.ntmps37
  go_wp2_with fail
  refine (dsize_any _ _ _ _ (by omega)).mono ?_
  rintro e w2 ⟨rfl, hb2⟩
  have HB2 := hide (HB0.out.trans (hb2.mono HB0.out.size))
  have HK2 := hide (HK0.out.later hb2)
  clear hb2
  go_wp2_with fail
  refine (firstTriple_any 47 _ n (cyq f) T _ (fun _ _ => rfl) h1 h12 (dfC_any A n c f w.heap.size _ HN.out HTB.out (HR.out.later HB2.out) HK2.out) HT.out).mono ?_
  rintro e w3 (⟨hTe, rfl, hb3⟩ | ⟨hTl, g, rfl, hb3, hg, hob⟩)
  · have HB3 := hide (HB2.out.trans (hb3.mono HB2.out.size))
    clear hb3
    go_wp2_with fail
    go_ret
    exact .inl ⟨hTe, rfl, HB3.out⟩
  · have HB3 := hide (HB2.out.trans (hb3.mono HB2.out.size))
    have HO3 := hide hob
    have hlo : w.heap.size ≤ g := by have := HB2.out.size; omega
    clear hb3 hob
    go_wp2_with fail
    go_ret
    exact .inr ⟨hTl, _, rfl, HB3.out, hlo, HO3.out⟩

set_option maxRecDepth 100000 in
theorem isCycD (A : Option Addr) (n c : Nat) (f : List (List Int)) (r : Bool) (w : World) (hn : f.length = n) (hb : n ≤ 1048576) (hbs : ∀ i, i < f.length → (f.getD i []).length ≤ 1048576) (hr : Rd2 w A f) (hres : CyRes f r) :
    Calls Tryd.prog 26 #[.slice A n c] w fun e w' => e = .returned (.bool r) ∧ Below w.heap.size w w' := by
  have HN := hide hn
  have HBS := hide hbs
  have HRD := hide hr
  have HR := hide hres
  have HB0 := hide (Below.refl w.heap.size w)
  have hnil : ∀ (u : World) (a : Option Addr) (n c : Nat), (binOp .eql 39 (.slice a n c) (.slice none 0 0)).run Tryd.prog u = .ok (.bool a.isNone) u := fun u a n c => Lib.run_eql_slice_nil u 39 _ a n c 0 0 Tryd.underlying39
  have hno : ¬ Cyc f → r = false := fun h => by
    cases r
    · rfl
    · exact absurd (hres.1 rfl) h
  have HNO := hide hno
  have hyes : Cyc f → r = true := fun h => hres.2 h
  have HYES := hide hyes
  clear hno hyes hn hbs hr hres
  by_cases ht : Tbl f
  · have HTB := hide ht
    clear ht
    have h12 : n ≤ 12 := by rw [← HN.out]; exact HTB.out.2.1
    go_enter Tryd.func26, Tryd.ntmps26
    go_wp2_with fail
    refine (isTable_any _ _ _ f true _ HN.out (by omega) (fun i hi => by have := HBS.out i hi; omega) (HRD.out.later HB0.out) (by simp [HTB.out])).mono ?_
    rintro e w1 ⟨rfl, hq1⟩
    have HB1 := hide (HB0.out.trans (hq1.below _))
    clear hq1
    by_cases hp : AllPrm f
    · have HP := hide hp
      clear hp
      go_wp2_with fail
      refine (rowsI_any _ _ _ f true _ HN.out hb HBS.out (HRD.out.later HB1.out) ⟨fun _ => HP.out, fun _ => rfl⟩).mono ?_
      rintro e w2 ⟨rfl, hb2⟩
      have HB2 := hide (HB1.out.trans (hb2.mono HB1.out.size))
      clear hb2
      go_wp2_with fail
      refine (squares_any _ _ _ f _ HN.out HTB.out (HRD.out.later HB2.out)).mono ?_
      rintro e w3 ⟨g3, rfl, hb3, hg3, hres3⟩
      have HB3 := hide (HB2.out.trans (hb3.mono HB2.out.size))
      have HS3 := hide hres3.rd
      clear hb3 hres3
      by_cases hs : Prm (kinkL f)
      · have HS := hide hs
        clear hs
        go_wp2_with fail
        refine (valid_any _ _ _ (kinkL f) true _ ((kinkL_length f).trans HN.out) (by omega) HS3.out (by simp [HS.out])).mono ?_
        rintro e w4 ⟨rfl, hb4⟩
        have HB4 := hide (HB3.out.trans (hb4.mono HB3.out.size))
        clear hb4
        go_wp2_with fail
        obtain ⟨T, hT⟩ := FirstQ.ex (cyq f) n
        have HT := hide hT
        clear hT
        refine (dfault_any _ _ _ f T _ HN.out HTB.out (HRD.out.later HB4.out) HT.out).mono ?_
        rintro e w5 (⟨hTe, rfl, hb5⟩ | ⟨hTl, g, rfl, hb5, hg, hob⟩)
        · have hrt : r = true := HYES.out ⟨⟨HTB.out, HP.out⟩, HS.out, by rw [HN.out]; exact HT.out.iff.1 hTe⟩
          subst hrt
          have HB5 := hide (HB4.out.trans (hb5.mono HB4.out.size))
          clear hb5 hTe
          go_wp2_with fail
          go_ret
          exact ⟨rfl, HB5.out⟩
        · have hrf : r = false := HNO.out fun h => by
            have h := h.2.2
            rw [HN.out] at h
            have := HT.out.iff.2 h
            omega
          subst hrf
          have HB5 := hide (HB4.out.trans (hb5.mono HB4.out.size))
          clear hb5 hTl hob
          go_wp2_with fail
          go_ret
          exact ⟨rfl, HB5.out⟩
      · have HS := hide hs
        clear hs
        go_wp2_with fail
        refine (valid_any _ _ _ (kinkL f) false _ ((kinkL_length f).trans HN.out) (by omega) HS3.out (by simp [HS.out])).mono ?_
        rintro e w4 ⟨rfl, hb4⟩
        have HB4 := hide (HB3.out.trans (hb4.mono HB3.out.size))
        clear hb4
        have hrf : r = false := HNO.out fun h => HS.out h.2.1
        subst hrf
        go_wp2_with fail
        go_ret
        exact ⟨rfl, HB4.out⟩
    · have HP := hide hp
      clear hp
      go_wp2_with fail
      refine (rowsI_any _ _ _ f false _ HN.out hb HBS.out (HRD.out.later HB1.out) ⟨fun h => (by cases h), fun h => absurd h HP.out⟩).mono ?_
      rintro e w2 ⟨rfl, hb2⟩
      have HB2 := hide (HB1.out.trans (hb2.mono HB1.out.size))
      clear hb2
      have hrf : r = false := HNO.out fun h => HP.out h.prm
      subst hrf
      go_wp2_with fail
      go_ret
      exact ⟨rfl, HB2.out⟩
  · have HTB := hide ht
    clear ht
    have hrf : r = false := HNO.out fun h => HTB.out h.tbl
    subst hrf
    go_enter Tryd.func26, Tryd.ntmps26
    go_wp2_with fail
    refine (isTable_any _ _ _ f false _ HN.out (by omega) (fun i hi => by have := HBS.out i hi; omega) (HRD.out.later HB0.out) (by simp [HTB.out])).mono ?_
    rintro e w1 ⟨rfl, hq1⟩
    have HB1 := hide (HB0.out.trans (hq1.below _))
    clear hq1
    go_wp2_with fail
    go_ret
    exact ⟨rfl, HB1.out⟩
end Go.Proofs.YtgahmfkmhaeniabDoor
namespace Go.Proofs.YtgahmfkmhaeniabDoor
open Go Go.RowKit
set_option maxHeartbeats 2000000

set_option maxRecDepth 100000 in
theorem faultD_any (A : Option Addr) (n c : Nat) (f : List (List Int)) (T : Nat) (w : World) (hn : f.length = n) (ht : Tbl f) (hr : Rd2 w A f) (hT : FirstQ (cyq f) n T) :
    Calls Tryd.prog 22 #[.slice A n c] w fun e w' => (T = n * n * n ∧ ∃ g, e = .returned (.slice (some ⟨g, 0, none⟩) 0 0) ∧ Below w.heap.size w w') ∨ (T < n * n * n ∧ ∃ g, e = .returned (.slice (some ⟨g, 0, none⟩) 3 3) ∧ Below w.heap.size w w' ∧ w.heap.size ≤ g ∧ OwnB 2 w' g (lst3 (trip n T))) := by
  have h1 : 1 ≤ n := by rw [← hn]; exact ht.1
  have h12 : n ≤ 12 := by rw [← hn]; exact ht.2.1
  obtain ⟨b, o, rfl, hb, hc⟩ := ht.cells hr hn
  have HC := hide hc
  have HN := hide hn
  have HTB := hide ht
  have HT := hide hT
  clear hn ht hr hT hc
  go_enter Tryd.func22, Tryd.ntmps22
  go_wp2_with fail
  go_loopw [4] (fun i wr => ∃ x : Nat, x ≤ n ∧ i = .int .i64 x ∧ Quiet w wr ∧ ∀ i, i < x * n * n → qAt (cyq f) n i = false) (fun i _ => n - (intOf i).toNat)
  case atStart => exact ⟨0, Nat.zero_le _, rfl, Quiet.refl _, fun i hi => absurd hi (by omega)⟩
  case round =>
    obtain ⟨x, hx, rfl, hq, hall⟩ := hrel
    have HQ := hide hq
    clear hq
    have HALL := hide hall
    clear hall
    by_cases hlt : x < n
    · have hxz : (x : Int) < n := by omega
      go_wp2_with fail
      go_loopw [5] (fun i wi => ∃ y : Nat, y ≤ n ∧ i = .int .i64 y ∧ Quiet w wi ∧ ∀ i, i < (x * n + y) * n → qAt (cyq f) n i = false) (fun i _ => n - (intOf i).toNat)
      case atStart => exact ⟨0, Nat.zero_le _, rfl, HQ.out, fun i hi => HALL.out i (by rw [Nat.add_zero] at hi; exact hi)⟩
      case round =>
        obtain ⟨y, hy, rfl, hq, halli⟩ := hrel
        have HQI := hide hq
        clear hq
        have HALLI := hide halli
        clear halli
        by_cases hlty : y < n
        · have hyz : (y : Int) < n := by omega
          go_wp2_with fail
          go_loopw [6] (fun i wi => ∃ z : Nat, z ≤ n ∧ i = .int .i64 z ∧ Quiet w wi ∧ ∀ i, i < (x * n + y) * n + z → qAt (cyq f) n i = false) (fun i _ => n - (intOf i).toNat)
          case atStart => exact ⟨0, Nat.zero_le _, rfl, HQI.out, HALLI.out⟩
          case round =>
            obtain ⟨z, hzn, rfl, hq, hallj⟩ := hrel
            have HQJ := hide hq
            clear hq
            have HALLJ := hide hallj
            clear hallj
            by_cases hltz : z < n
            · have hzz : (z : Int) < n := by omega
              have hq1 := HTB.out.ap_lt HN.out hlt hlty
              have hq3 := HTB.out.ap_lt HN.out hlty hlt
              have hq2 := HTB.out.ap_lt HN.out hlt hltz
              have hq4 := HTB.out.ap_lt HN.out hlty hltz
              have hat := qAt_at (q := cyq f) (n := n) (x := x) hlty hltz
              have HTR := hide (trip_of (n := n) (x := x) hlty hltz)
              have HKL := hide (trip_lt (n := n) hlt hlty hltz)
              unfold cyq at hat
              obtain ⟨q1, h_1⟩ : ∃ u, ap f x y = u := ⟨_, rfl⟩
              obtain ⟨q2, h_2⟩ : ∃ u, ap f x z = u := ⟨_, rfl⟩
              obtain ⟨q3, h_3⟩ : ∃ u, ap f y x = u := ⟨_, rfl⟩
              obtain ⟨q4, h_4⟩ : ∃ u, ap f y z = u := ⟨_, rfl⟩
              rw [h_1, h_2, h_3, h_4] at hat
              rw [h_1] at hq1
              rw [h_2] at hq2
              rw [h_3] at hq3
              rw [h_4] at hq4
              obtain ⟨q5, h_5⟩ : ∃ u, ap f q1 q2 = u := ⟨_, rfl⟩
              obtain ⟨q6, h_6⟩ : ∃ u, ap f q3 q4 = u := ⟨_, rfl⟩
              rw [h_5, h_6] at hat
              have HAT : Hid (qAt (cyq f) n ((x * n + y) * n + z) = !decide (q5 = q6)) := hide hat
              obtain ⟨bx, ox, cx, r1, r2, r3⟩ := HC.out x hlt
              obtain ⟨by', oy, cy, s1, s2, s3⟩ := HC.out y hlty
              obtain ⟨bp, op, cp, t1, t2, t3⟩ := HC.out q1 hq1
              obtain ⟨bq, oq, cq, v1, v2, v3⟩ := HC.out q3 hq3
              have e1 := r3 y hlty
              rw [h_1] at e1
              have e2 := r3 z hltz
              rw [h_2] at e2
              have e3 := s3 x hlt
              rw [h_3] at e3
              have e4 := s3 z hltz
              rw [h_4] at e4
              have e5 := t3 q2 hq2
              rw [h_5] at e5
              have e6 := v3 q4 hq4
              rw [h_6] at e6
              have z1 : (q1 : Int) < n := by omega
              have z2 : (q2 : Int) < n := by omega
              have z3 : (q3 : Int) < n := by omega
              have z4 : (q4 : Int) < n := by omega
              have hbl := HQJ.out.below w.heap.size
              replace r1 := (hbl.cell (p := ⟨b, o + x, none⟩) hb).trans r1
              replace s1 := (hbl.cell (p := ⟨b, o + y, none⟩) hb).trans s1
              replace t1 := (hbl.cell (p := ⟨b, o + q1, none⟩) hb).trans t1
              replace v1 := (hbl.cell (p := ⟨b, o + q3, none⟩) hb).trans v1
              replace e1 := (hbl.cell (p := ⟨bx, ox + y, none⟩) r2).trans e1
              replace e2 := (hbl.cell (p := ⟨bx, ox + z, none⟩) r2).trans e2
              replace e3 := (hbl.cell (p := ⟨by', oy + x, none⟩) s2).trans e3
              replace e4 := (hbl.cell (p := ⟨by', oy + z, none⟩) s2).trans e4
              replace e5 := (hbl.cell (p := ⟨bp, op + q2, none⟩) t2).trans e5
              replace e6 := (hbl.cell (p := ⟨bq, oq + q4, none⟩) v2).trans e6
              clear hbl h_1 h_2 h_3 h_4 h_5 h_6 hat r3 s3 t3 v3
              by_cases hcs : q5 = q6
              · have HGOOD : Hid (qAt (cyq f) n ((x * n + y) * n + z) = false) := hide (by rw [HAT.out, hcs]; simp)
                subst hcs
                go_wp2_with fail
                go_quiet (fail)
                go_wp2_with fail
                go_roundw
                case rel => exact ⟨z + 1, by omega, by go_num, HQJ.out.drewN _, fun i hi => by
                  by_cases e : i = (x * n + y) * n + z
                  · rw [e]; exact HGOOD.out
                  · exact HALLJ.out i (by omega)⟩
                case measure => simp [intOf]; omega
              · have hbad : qAt (cyq f) n ((x * n + y) * n + z) = true := by rw [HAT.out]; simp [hcs]
                have HTB2 := hide (HT.out.bad HALLJ.out HKL.out hbad)
                have hcz : ¬ (q5 : Int) = q6 := by omega
                clear hbad
                go_wp2_with fail
                go_quiet (fail)
                go_wp2_with fail
                refine bp_gen fun wf hwf => ?_
                have HBF : Below w.heap.size w wf := by rw [hwf]; exact ((HQJ.out.drewN nq).below _).alloc ((HQJ.out.drewN nq).below 0).size _
                have HLF : Hid (Blk wf (wr.drewN nq).heap.size 2 [.int .i64 x, .int .i64 y, .int .i64 z]) := hide (by rw [hwf]; exact Blk.new _ _ _)
                have hlo : w.heap.size ≤ (wr.drewN nq).heap.size := ((HQJ.out.drewN nq).below 0).size
                clear hwf
                go_ret
                exact .inr ⟨by rw [HTB2.out]; exact HKL.out, _, rfl, HBF, hlo, _, HLF.out, fun i hi => by
                  rw [HTB2.out, HTR.out] at hi ⊢
                  simp [lst3] at hi
                  rcases i with _ | _ | _ | i
                  · rfl
                  · rfl
                  · rfl
                  · omega⟩
            · have hzn' : z = n := by omega
              subst hzn'
              go_wp2_with fail
              go_roundw
              case rel => exact ⟨y + 1, by omega, by go_num, HQJ.out, fun i hi => HALLJ.out i (by rw [← Nat.add_assoc, Nat.add_mul _ 1, Nat.one_mul] at hi; exact hi)⟩
              case measure => simp [intOf]; omega
        · have hyn' : y = n := by omega
          subst hyn'
          go_wp2_with fail
          go_roundw
          case rel => exact ⟨x + 1, by omega, by go_num, HQI.out, fun i hi => HALLI.out i (by rw [Nat.add_mul x 1, Nat.one_mul] at hi; exact hi)⟩
          case measure => simp [intOf]; omega
    · have hxn : x = n := by omega
      subst hxn
      go_wp2_with fail
      refine bp_gen fun wf hwf => ?_
      have HBF : Below w.heap.size w wf := by rw [hwf]; exact (HQ.out.below _).alloc (HQ.out.below 0).size _
      clear hwf
      go_ret
      exact .inl ⟨HT.out.all HALL.out, _, rfl, HBF⟩

set_option maxRecDepth 100000 in
theorem squaresS_any (A : Option Addr) (n c : Nat) (f : List (List Int)) (w : World) (hn : f.length = n) (ht : Tbl f) (hr : Rd2 w A f) :
    Calls Tryd.prog 21 #[.slice A n c] w fun e w' => ∃ A' c', e = .returned (.slice A' n c') ∧ Below w.heap.size w w' ∧ Res 2 w.heap.size w' A' (kinkL f) := by
  have h1 : 1 ≤ n := by rw [← hn]; exact ht.1
  have h12 : n ≤ 12 := by rw [← hn]; exact ht.2.1
  obtain ⟨b, o, rfl, hb, hc⟩ := ht.cells hr hn
  have HC := hide hc
  have HN := hide hn
  have HZ : Hid ((kinkL f).length = n) := hide ((kinkL_length f).trans hn)
  obtain ⟨i0, hi, hz0, hz1, hz2⟩ := info_parts kqInfo
  have HB0 := hide ((Below.refl _ w).alloc (Nat.le_refl _) (Obj.cells #[] 2))
  have HE0 := hide (kq_empty w 2)
  clear hn ht hr hc
  go_enter Tryd.func21, Tryd.ntmps21
  go_wp2_with fail
  go_loopw [3, 4] (fun v i wr => ∃ k : Nat, k ≤ n ∧ i = .int .i64 k ∧ Below w.heap.size w wr ∧ wr.ownsRow w.heap.size 2 1 v k (ints ((kinkL f).take k)) ∧ w.heap.size ≤ wr.heap.size) (fun _ i _ => n - (intOf i).toNat)
  case atStart => exact ⟨0, Nat.zero_le _, rfl, HB0.out, by simpa [ints] using HE0.out, by simp⟩
  case round =>
    obtain ⟨k, hk, rfl, hbe, hown, hsz⟩ := hrel
    have HB := hide hbe
    have HO := hide hown
    clear hbe hown
    by_cases hlt : k < n
    · obtain ⟨bx, ox, cx, r1, r2, r3⟩ := HC.out k hlt
      have e1 := r3 k hlt
      obtain ⟨u, hu⟩ : ∃ u, ap f k k = u := ⟨_, rfl⟩
      rw [hu] at e1
      have HU := hide hu
      replace r1 := (HB.out.cell (p := ⟨b, o + k, none⟩) hb).trans r1
      replace e1 := (HB.out.cell (p := ⟨bx, ox + k, none⟩) r2).trans e1
      clear r3 hu
      have hltz : (k : Int) < n := by omega
      go_wp2_with (at_builtin; refine wpList_append_own _ rfl _ _ 39 rfl w.heap.size 2 i0 (.int .i64 0) 1 8 Tryd.underlying39 hi hz0 hz1 hz2 rfl (by decide) _ _ _ rfl (HO.out.alloc _) ⟨wr.heap.size, 0, none⟩ 1 1 [.int .i64 (u : Int)] rfl rfl ?c1 ?c2 ?c3 ?c4 ?c5 ?_)
      case c1 => exact kq_new
      case c2 => intro u hu; simp at hu; subst hu; rfl
      case c3 => unfold maxLen; omega
      case c4 => omega
      case c5 => simp; omega
      intro v' w1 hown' hgrow _
      have HO' := hide hown'
      have HG := hide hgrow
      clear hown' hgrow
      go_wp2_with fail
      go_roundw
      case rel =>
        have hlow : w.heap.size ≤ wr.heap.size := by omega
        have hB1 : Below w.heap.size w w1 := (HB.out.alloc hlow _).grown HG.out (by simp; omega) (fun g hg => by have h := ((HO.out.alloc (.cells #[.int .i64 (u : Int)] 2)).lt g hg).1; omega)
        refine ⟨k + 1, by omega, by go_num, hB1, ?_, hB1.size⟩
        have h := HO'.out
        rw [kq_take _ k (u : Int) (by have := HZ.out; omega) (by rw [kinkL_getD f k (by have := HN.out; omega), HU.out])] at h
        exact h
      case measure => simp [intOf]; omega
    · have hkn : k = n := by omega
      subst hkn
      go_wp2_with fail
      have h := HO.out
      rw [List.take_of_length_le (by have := HZ.out; omega)] at h
      go_ret
      obtain ⟨A', c', hv, hres⟩ := own_shape h
      exact ⟨A', c', by rw [← hv]; rfl, HB.out, hres.mono (by omega)⟩

set_option maxRecDepth 100000 in
theorem isCycS (A : Option Addr) (n c : Nat) (f : List (List Int)) (r : Bool) (w : World) (hn : f.length = n) (hb : n ≤ 1048576) (hbs : ∀ i, i < f.length → (f.getD i []).length ≤ 1048576) (hr : Rd2 w A f) (hres : CyRes f r) :
    Calls Tryd.prog 10 #[.agg #[.slice A n c]] w fun e w' => e = .returned (.bool r) ∧ Below w.heap.size w w' := by
  have HN := hide hn
  have HBS := hide hbs
  have HRD := hide hr
  have HR := hide hres
  have HB0 := hide ((Below.refl _ w).alloc (Nat.le_refl _) (Obj.cells #[Value.slice A n c] 24))
  have HK0 := hide (Blk.new w 24 [.slice A n c])
  have hno : ¬ Cyc f → r = false := fun h => by
    cases r
    · rfl
    · exact absurd (hres.1 rfl) h
  have HNO := hide hno
  have hyes : Cyc f → r = true := fun h => hres.2 h
  have HYES := hide hyes
  clear hno hyes hn hbs hr hres
  by_cases ht : Tbl f
  · have HTB := hide ht
    clear ht
    have h12 : n ≤ 12 := by rw [← HN.out]; exact HTB.out.2.1
    go_enter Tryd.func10, Tryd.ntmps10
    go_wp2_with fail
    refine (l01Table_any _ _ _ f true _ HN.out (by omega) (fun i hi => by have := HBS.out i hi; omega) (HRD.out.later HB0.out) (by simp [HTB.out])).mono ?_
    rintro e w1 ⟨rfl, hq1⟩
    have HB1 := hide (HB0.out.trans (hq1.below _))
    have HK1 := hide (HK0.out.later (hq1.below _))
    clear hq1
    have k0 := HK1.out.cell 0 _ rfl
    by_cases hp : AllPrm f
    · have HP := hide hp
      clear hp
      go_wp2_with fail
      clear k0
      refine (rowsS_any _ _ _ f true _ HN.out hb HBS.out (HRD.out.later HB1.out) ⟨fun _ => HP.out, fun _ => rfl⟩).mono ?_
      rintro e w2 ⟨rfl, hb2⟩
      have HB2 := hide (HB1.out.trans (hb2.mono HB1.out.size))
      have HK2 := hide (HK1.out.later hb2)
      clear hb2
      have k0 := HK2.out.cell 0 _ rfl
      go_wp2_with fail
      clear k0
      refine (squaresS_any _ _ _ f _ HN.out HTB.out (HRD.out.later HB2.out)).mono ?_
      rintro e w3 ⟨A3, c3, rfl, hb3, hres3⟩
      have HB3 := hide (HB2.out.trans (hb3.mono HB2.out.size))
      have HK3 := hide (HK2.out.later hb3)
      have HS3 := hide hres3.rd
      clear hb3 hres3
      by_cases hs : Prm (kinkL f)
      · have HS := hide hs
        clear hs
        go_wp2_with fail
        refine (prmS_below _ _ _ (kinkL f) true _ ((kinkL_length f).trans HN.out) (by omega) HS3.out (by simp [HS.out])).mono ?_
        rintro e w4 ⟨rfl, hb4⟩
        have HB4 := hide (HB3.out.trans (hb4.mono HB3.out.size))
        have HK4 := hide (HK3.out.later hb4)
        clear hb4
        have k0 := HK4.out.cell 0 _ rfl
        go_wp2_with fail
        clear k0
        obtain ⟨T, hT⟩ := FirstQ.ex (cyq f) n
        have HT := hide hT
        clear hT
        refine (faultD_any _ _ _ f T _ HN.out HTB.out (HRD.out.later HB4.out) HT.out).mono ?_
        rintro e w5 (⟨hTe, g, rfl, hb5⟩ | ⟨hTl, g, rfl, hb5, hg, hob⟩)
        · have hrt : r = true := HYES.out ⟨⟨HTB.out, HP.out⟩, HS.out, by rw [HN.out]; exact HT.out.iff.1 hTe⟩
          subst hrt
          have HB5 := hide (HB4.out.trans (hb5.mono HB4.out.size))
          clear hb5 hTe
          go_wp2_with fail
          go_ret
          exact ⟨rfl, HB5.out⟩
        · have hrf : r = false := HNO.out fun h => by
            have h := h.2.2
            rw [HN.out] at h
            have := HT.out.iff.2 h
            omega
          subst hrf
          have HB5 := hide (HB4.out.trans (hb5.mono HB4.out.size))
          clear hb5 hTl hob
          go_wp2_with fail
          go_ret
          exact ⟨rfl, HB5.out⟩
      · have HS := hide hs
        clear hs
        go_wp2_with fail
        refine (prmS_below _ _ _ (kinkL f) false _ ((kinkL_length f).trans HN.out) (by omega) HS3.out (by simp [HS.out])).mono ?_
        rintro e w4 ⟨rfl, hb4⟩
        have HB4 := hide (HB3.out.trans (hb4.mono HB3.out.size))
        clear hb4
        have hrf : r = false := HNO.out fun h => HS.out h.2.1
        subst hrf
        go_wp2_with fail
        go_ret
        exact ⟨rfl, HB4.out⟩
    · have HP := hide hp
      clear hp
      go_wp2_with fail
      clear k0
      refine (rowsS_any _ _ _ f false _ HN.out hb HBS.out (HRD.out.later HB1.out) ⟨fun h => (by cases h), fun h => absurd h HP.out⟩).mono ?_
      rintro e w2 ⟨rfl, hb2⟩
      have HB2 := hide (HB1.out.trans (hb2.mono HB1.out.size))
      clear hb2
      have hrf : r = false := HNO.out fun h => HP.out h.prm
      subst hrf
      go_wp2_with fail
      go_ret
      exact ⟨rfl, HB2.out⟩
  · have HTB := hide ht
    clear ht
    have hrf : r = false := HNO.out fun h => HTB.out h.tbl
    subst hrf
    go_enter Tryd.func10, Tryd.ntmps10
    go_wp2_with fail
    refine (l01Table_any _ _ _ f false _ HN.out (by omega) (fun i hi => by have := HBS.out i hi; omega) (HRD.out.later HB0.out) (by simp [HTB.out])).mono ?_
    rintro e w1 ⟨rfl, hq1⟩
    have HB1 := hide (HB0.out.trans (hq1.below _))
    clear hq1
    go_wp2_with fail
    go_ret
    exact ⟨rfl, HB1.out⟩
end Go.Proofs.YtgahmfkmhaeniabDoor
namespace Go.Proofs.YtgahmfkmhaeniabDoor
open Go Go.RowKit
set_option maxHeartbeats 2000000

set_option maxRecDepth 100000 in
theorem isCycIW (A : Option Addr) (n c : Nat) (f : List (List Int)) (r : Bool) (w : World) (hn : f.length = n) (hb : n ≤ 1048576) (hbs : ∀ i, i < f.length → (f.getD i []).length ≤ 1048576) (hr : Rd2 w A f) (hres : CyRes f r) :
    Calls Tryd.prog 12 #[.agg #[.slice A n c]] w fun e w' => e = .returned (.bool r) ∧ Below w.heap.size w w' := by
  have HN := hide hn
  have HBS := hide hbs
  have HRD := hide hr
  have HB0 := hide ((Below.refl _ w).alloc (Nat.le_refl _) (Obj.cells #[Value.slice A n c] 24))
  have HK0 := hide (Blk.new w 24 [.slice A n c])
  have HRS := hide hres
  clear hn hbs hr hres
  go_enter Tryd.func12, Tryd.ntmps12
  go_wp2_with fail
  refine (isCycD _ _ _ f r _ HN.out hb HBS.out (HRD.out.later HB0.out) HRS.out).mono ?_
  rintro e w1 ⟨rfl, hb1⟩
  have HB1 := hide (HB0.out.trans (hb1.mono HB0.out.size))
  clear hb1
  go_wp2_with fail
  go_ret
  exact ⟨rfl, HB1.out⟩

end Go.Proofs.YtgahmfkmhaeniabDoor
namespace Go.Proofs.YtgahmfkmhaeniabDoor
open Go Go.RowKit

section
variable {ts t tz : TypeId} {B : Nat} {w w' w1 : World} {v v' : Value} {rows : List (List Int)} {vals : List Value} {ob : Nat}

/-- A list of rows that the call builds by append, in cell s of the box ob, whose other cells are cs. -/
structure One (ts t tz : TypeId) (B : Nat) (w : World) (ob s : Nat) (cs : List Value) (v : Value) (rows : List (List Int)) (vals : List Value) : Prop where
  box : Blk w ob tz (cs.set s v)
  low : ob < B
  bsz : B ≤ w.heap.size
  l : LstV ts t B w v rows vals

variable {s : Nat} {cs : List Value}
theorem One.later (h : One ts t tz B w ob s cs v rows vals) (hb : Below w.heap.size w w') : One ts t tz B w' ob s cs v rows vals :=
  ⟨h.box.later hb, h.low, Nat.le_trans h.bsz hb.size, h.l.later hb⟩
theorem One.kept {tmp : Obj} (h : One ts t tz B w ob s cs v rows vals) (hg : (w.alloc tmp).grownBy w1 v.ownBlock) : Blk w1 ob tz (cs.set s v) :=
  (hg.block ob (by have := h.box.lt; simp; omega) (fun e => by
    have := (own_type h.l.own e.symm).2.1
    have := h.low
    omega)).trans (h.box.later ((Below.refl _ _).alloc (Nat.le_refl _) _))
theorem One.push {A : Option Addr} {c : Nat} {r : List Int} {tmp : Obj} (hne : ts ≠ t) (h : One ts t tz B w ob s cs v rows vals) (hA : Obj1 t B w.heap.size w A r)
    (hdis : ∀ (i : Nat) (u : Value) (g : Nat), vals[i]? = some u → u.ownBlock = some g → ∀ a, A = some a → a.block ≠ g)
    (hown : w1.ownsRow B ts 1 v' (rows.length + 1) (vals ++ [.slice A r.length c])) (hg : (w.alloc tmp).grownBy w1 v.ownBlock) :
    One ts t tz B (w1.setCell ⟨ob, s, none⟩ v') ob s cs v' (rows ++ [r]) (vals ++ [.slice A r.length c]) := by
  refine ⟨?_, h.low, by have h1 := hg.size; have h2 := h.bsz; simp at h1; simp [World.setCell]; omega, store_low (h.l.push2 hne hA hdis hown hg) h.low _ _⟩
  have hb1 : Blk w1 ob tz (cs.set s v) := h.kept hg
  have h2 := hb1.set s v'
  rw [List.set_set] at h2
  exact h2
theorem One.start (w : World) (ts t tz : TypeId) (hb : Blk w ob tz (cs.set s (.slice none 0 0))) (hB : ob < B) (hw : B ≤ w.heap.size) : One ts t tz B w ob s cs (.slice none 0 0) [] [] :=
  ⟨hb, hB, hw, LstV.nil _ _ _ _⟩
theorem One.frame {tmp : Obj} (h : One ts t tz B w ob s cs v rows vals) (hg : (w.alloc tmp).grownBy w1 v.ownBlock) (u : Value) {k : Nat} (hk : k < B) (hne : k ≠ ob) (hkw : k < w.heap.size) : (w1.setCell ⟨ob, s, none⟩ u).heap[k]? = w.heap[k]? :=
  (Below.heap_setCell w1 ⟨ob, s, none⟩ u k hne).trans ((hg.block k (by simp; omega) (fun e => by
    have := (own_type h.l.own e.symm).2.1
    omega)).trans (((Below.refl w.heap.size w).alloc (Nat.le_refl _) tmp).block k hkw))
theorem One.below {tmp : Obj} {b0 : Nat} {w0 : World} (h : One ts t tz B w ob s cs v rows vals) (hg : (w.alloc tmp).grownBy w1 v.ownBlock) (u : Value) (hb : Below b0 w0 w) (h0 : b0 ≤ ob) : Below b0 w0 (w1.setCell ⟨ob, s, none⟩ u) :=
  ((hb.alloc (by have := h.box.lt; omega) tmp).grown hg (by have := h.box.lt; simp; omega) (fun g e => by
    have := (own_type h.l.own e).2.1
    have := h.low
    omega)).setCell (p := ⟨ob, s, none⟩) h0 u
/-- A row that a call has made behind the world w0, in which the list lay already, is appended and stored. -/
theorem One.add {w0 : World} {A : Option Addr} {c k x gg cap : Nat} {r : List Int} {tmp : Obj} {lo : Nat} (hne : ts ≠ t) (h0 : One ts t tz B w0 ob s cs v rows vals) (h : One ts t tz B w ob s cs v rows vals) (hlo : w0.heap.size ≤ lo) (hA : Obj1 t lo w.heap.size w A r) (hl : rows.length = x) (hr : r.length = k)
    (hown : w1.ownsRow B ts 1 (.slice (some ⟨gg, 0, none⟩) (x + 1) cap) (x + 1) (vals ++ [.slice A k c])) (hg : (w.alloc tmp).grownBy w1 v.ownBlock) :
    One ts t tz B (w1.setCell ⟨ob, s, none⟩ (.slice (some ⟨gg, 0, none⟩) (x + 1) cap)) ob s cs (.slice (some ⟨gg, 0, none⟩) (x + 1) cap) (rows ++ [r]) (vals ++ [.slice A k c]) := by
  have hB := h0.bsz
  subst hr
  subst hl
  refine h.push hne (hA.mono (by omega) (Nat.le_refl _)) (fun i u g hu hug a ha => ?_) hown hg
  have h1 := h0.l.low i u g hu hug
  have h2 := (hA.bounds a ha).1
  omega
end

/-- The table of a result is laid into its box. -/
theorem kend {ts t tz : TypeId} {w w3 wf : World} {r lo hi : Nat} {A : Option Addr} {n c : Nat} {f : List (List Int)} {u : Value} (hwf : wf = w3.setCell ⟨r, 0, none⟩ (.slice A n c)) (hr : Blk w3 r tz [u]) (hr0 : w.heap.size ≤ r) (hb : Below w.heap.size w w3) (ho : Obj2 ts t lo hi w3 A f) (hlo : w.heap.size ≤ lo) (hrl : r < lo) (hhi : hi ≤ w3.heap.size) :
    wf.cell? ⟨r, 0, none⟩ = some (.slice A n c) ∧ Below w.heap.size w wf ∧ Obj2 ts t w.heap.size wf.heap.size wf A f := by
  have hR : Blk wf r tz [.slice A n c] := by rw [hwf]; exact hr.set 0 _
  refine ⟨hR.cell 0 _ rfl, ?_, ?_⟩
  · rw [hwf]; exact hb.setCell (p := ⟨r, 0, none⟩) hr0 _
  · rw [hwf]; exact (ho.set (p := ⟨r, 0, none⟩) (.inl hrl) _).mono hlo (by simp [World.setCell]; exact hhi)
end Go.Proofs.YtgahmfkmhaeniabDoor
namespace Go.Proofs.YtgahmfkmhaeniabDoor
open Go Go.RowKit
set_option maxHeartbeats 4000000

set_option maxRecDepth 100000 in
theorem parseCycI (s : ByteArray) (zs : List (List Int)) (code : Int) (k : Nat) (w : World) (hb : s.size ≤ 1048576) (hmx : MaxL w) (hres : PcRes s zs code) (hk : zs.length = k) :
    Calls Tryd.prog 5 #[.string s] w (fun e w' => ∃ A' c', e = .returned (.tuple #[.agg #[.slice A' k c'], .int .i64 code]) ∧ Below w.heap.size w w' ∧ Obj2 39 2 w.heap.size w'.heap.size w' A' zs) := by
  obtain ⟨rows, code0, hpt, hl0, hrl0⟩ := PtRes.ex s
  obtain ⟨n, hn⟩ : ∃ n, rows.length = n := ⟨_, rfl⟩
  have HPT := hide hpt
  have HN := hide hn
  have HRL := hide hrl0
  have HMX := hide hmx
  rw [hn] at hl0
  have HB0 := hide ((Below.refl _ w).alloc (Nat.le_refl _) (Obj.cells #[.slice none 0 0] 24))
  have HK0 := hide (Blk.new w 24 [.slice none 0 0])
  rcases hres with ⟨hg, rfl, rfl⟩ | ⟨hg, rfl, rfl⟩
  · obtain ⟨hz, hc0⟩ := hpt.eqc hg
    have hkn : n = k := by rw [← hn, ← hk, hz]
    subst hkn
    subst hc0
    have HRK : Hid (CyRes rows true) := hide ⟨fun _ => hpt.cyc.2 hg, fun _ => rfl⟩
    rw [← hz]
    clear hg hz hpt hn hrl0 hmx hk
    go_enter Tryd.func5, Tryd.ntmps5
    go_wp2_with fail
    refine calls_gen fun wp hwp => ?_
    replace HB0 : Hid (Below w.heap.size w wp) := hide (by rw [hwp]; exact HB0.out)
    replace HK0 : Hid (Blk wp w.heap.size 24 [.slice none 0 0]) := hide (by rw [hwp]; exact HK0.out)
    clear hwp
    refine (parseTableI s rows 0 n _ hb (HMX.out.later HB0.out) HPT.out HN.out).mono ?_
    rintro e w1 ⟨A1, c1, rfl, hb1, ho1⟩
    have HLOW : Hid (w.heap.size < wp.heap.size) := hide HK0.out.lt
    have HLO : Hid (w.heap.size ≤ wp.heap.size) := hide (Nat.le_of_lt HLOW.out)
    have HB1 := hide (HB0.out.trans (hb1.mono HB0.out.size))
    have HK1 := hide (HK0.out.later hb1)
    have HO1 := hide ho1
    clear hb1 ho1
    go_wp2_with fail
    refine calls_gen fun w2 hw2 => ?_
    have hb2 : Below w1.heap.size w1 w2 := by rw [hw2]; exact (Below.refl _ _).alloc (Nat.le_refl _) _
    have HB2 := hide (HB1.out.trans (hb2.mono HB1.out.size))
    have HK2 := hide (HK1.out.later hb2)
    have HO2 := hide (HO1.out.later hb2)
    have HR2 : Hid (Blk w2 w1.heap.size 24 [.slice A1 n c1]) := hide (by rw [hw2]; exact Blk.new _ _ _)
    have hs2 := hb2.size
    clear hw2 hb2
    refine (isCycIW _ n _ rows true _ HN.out (by omega) HRL.out HO2.out.rd HRK.out).mono ?_
    rintro e w3 ⟨rfl, hb3⟩
    have HB3 := hide (HB2.out.trans (hb3.mono HB2.out.size))
    have HK3 := hide (HK2.out.later hb3)
    have HO3 := hide (HO2.out.later hb3)
    have HR3 := hide (HR2.out.later hb3)
    have hs3 := hb3.size
    clear hb3
    have k0 := HR3.out.cell 0 _ rfl
    have k2 := HK3.out.cell 0 _ rfl
    have k3 := HK3.out.frozen 0
    have hlow : w.heap.size < w1.heap.size := HK1.out.lt
    go_wp2_with fail
    refine bp_gen fun wf hwf => ?_
    obtain ⟨q0, hbf, hof⟩ := kend hwf HK3.out (Nat.le_refl _) HB3.out (HO3.out) HLO.out HLOW.out (by omega)
    clear hwf k0 k2 k3
    exact bodyPost_ret (v := .tuple #[.agg #[.slice A1 n c1], .int .i64 0]) (by simp [results, Tryd.results5, go_sem, q0]) rfl ⟨_, _, rfl, hbf, hof⟩
  · have hk0 : k = 0 := by rw [← hk]; rfl
    subst hk0
    have HRK : Hid (CyRes rows false) := hide ⟨fun h => (by cases h), fun h => absurd (hpt.cyc.1 h) hg⟩
    clear hg hpt hn hrl0 hmx hk
    go_enter Tryd.func5, Tryd.ntmps5
    go_wp2_with fail
    refine calls_gen fun wp hwp => ?_
    replace HB0 : Hid (Below w.heap.size w wp) := hide (by rw [hwp]; exact HB0.out)
    replace HK0 : Hid (Blk wp w.heap.size 24 [.slice none 0 0]) := hide (by rw [hwp]; exact HK0.out)
    clear hwp
    refine (parseTableI s rows code0 n _ hb (HMX.out.later HB0.out) HPT.out HN.out).mono ?_
    rintro e w1 ⟨A1, c1, rfl, hb1, ho1⟩
    have HLOW : Hid (w.heap.size < wp.heap.size) := hide HK0.out.lt
    have HLO : Hid (w.heap.size ≤ wp.heap.size) := hide (Nat.le_of_lt HLOW.out)
    have HB1 := hide (HB0.out.trans (hb1.mono HB0.out.size))
    have HK1 := hide (HK0.out.later hb1)
    have HO1 := hide ho1
    clear hb1 ho1
    go_wp2_with fail
    refine calls_gen fun w2 hw2 => ?_
    have hb2 : Below w1.heap.size w1 w2 := by rw [hw2]; exact (Below.refl _ _).alloc (Nat.le_refl _) _
    have HB2 := hide (HB1.out.trans (hb2.mono HB1.out.size))
    have HK2 := hide (HK1.out.later hb2)
    have HO2 := hide (HO1.out.later hb2)
    have HR2 : Hid (Blk w2 w1.heap.size 24 [.slice A1 n c1]) := hide (by rw [hw2]; exact Blk.new _ _ _)
    have hs2 := hb2.size
    clear hw2 hb2
    refine (isCycIW _ n _ rows false _ HN.out (by omega) HRL.out HO2.out.rd HRK.out).mono ?_
    rintro e w3 ⟨rfl, hb3⟩
    have HB3 := hide (HB2.out.trans (hb3.mono HB2.out.size))
    have HK3 := hide (HK2.out.later hb3)
    have HO3 := hide (HO2.out.later hb3)
    have HR3 := hide (HR2.out.later hb3)
    have hs3 := hb3.size
    clear hb3
    have k2 := HK3.out.cell 0 _ rfl
    have k3 := HK3.out.frozen 0
    go_wp2_with fail
    refine bp_gen fun wf hwf => ?_
    have HRF : Blk wf w.heap.size 24 [.slice none 0 0] := by rw [hwf]; first | exact HK3.out | exact HK3.out.set 0 _
    have hbf : Below w.heap.size w wf := by rw [hwf]; first | exact HB3.out | exact HB3.out.setCell (p := ⟨w.heap.size, 0, none⟩) (Nat.le_refl _) _
    have q0 := HRF.cell 0 _ rfl
    clear hwf k2 k3
    exact bodyPost_ret (v := .tuple #[.agg #[.slice none 0 0], .int .i64 6]) (by simp [results, Tryd.results5, go_sem, q0]) rfl ⟨_, _, rfl, hbf, .inl ⟨rfl, rfl⟩⟩
end Go.Proofs.YtgahmfkmhaeniabDoor
namespace Go.Proofs.YtgahmfkmhaeniabDoor
open Go Go.RowKit
set_option maxHeartbeats 4000000

set_option maxRecDepth 100000 in
theorem parseCycS (s : ByteArray) (zs : List (List Int)) (code : Int) (k : Nat) (w : World) (hb : s.size ≤ 1048576) (hres : PcRes s zs code) (hk : zs.length = k) :
    Calls Tryd.prog 4 #[.string s] w (fun e w' => ∃ A' c', e = .returned (.tuple #[.agg #[.slice A' k c'], .int .i64 code]) ∧ Below w.heap.size w w' ∧ Obj2 39 2 w.heap.size w'.heap.size w' A' zs) := by
  obtain ⟨rows, code0, hpt, hl0, hrl0⟩ := PtRes.ex s
  obtain ⟨n, hn⟩ : ∃ n, rows.length = n := ⟨_, rfl⟩
  have HPT := hide hpt
  have HN := hide hn
  have HRL := hide hrl0
  skip
  rw [hn] at hl0
  have HB0 := hide ((Below.refl _ w).alloc (Nat.le_refl _) (Obj.cells #[.slice none 0 0] 24))
  have HK0 := hide (Blk.new w 24 [.slice none 0 0])
  rcases hres with ⟨hg, rfl, rfl⟩ | ⟨hg, rfl, rfl⟩
  · obtain ⟨hz, hc0⟩ := hpt.eqc hg
    have hkn : n = k := by rw [← hn, ← hk, hz]
    subst hkn
    subst hc0
    have HRK : Hid (CyRes rows true) := hide ⟨fun _ => hpt.cyc.2 hg, fun _ => rfl⟩
    rw [← hz]
    clear hg hz hpt hn hrl0 hk
    go_enter Tryd.func4, Tryd.ntmps4
    go_wp2_with fail
    refine calls_gen fun wp hwp => ?_
    replace HB0 : Hid (Below w.heap.size w wp) := hide (by rw [hwp]; exact HB0.out)
    replace HK0 : Hid (Blk wp w.heap.size 24 [.slice none 0 0]) := hide (by rw [hwp]; exact HK0.out)
    clear hwp
    refine (l01Parse_any s rows 0 true n _ hb HPT.out (by simp) HN.out).mono ?_
    rintro e w1 ⟨A1, c1, rfl, hb1, ho1⟩
    have HLOW : Hid (w.heap.size < wp.heap.size) := hide HK0.out.lt
    have HLO : Hid (w.heap.size ≤ wp.heap.size) := hide (Nat.le_of_lt HLOW.out)
    have HB1 := hide (HB0.out.trans (hb1.mono HB0.out.size))
    have HK1 := hide (HK0.out.later hb1)
    have HO1 := hide ho1
    clear hb1 ho1
    go_wp2_with fail
    refine calls_gen fun w2 hw2 => ?_
    have hb2 : Below w1.heap.size w1 w2 := by rw [hw2]; exact (Below.refl _ _).alloc (Nat.le_refl _) _
    have HB2 := hide (HB1.out.trans (hb2.mono HB1.out.size))
    have HK2 := hide (HK1.out.later hb2)
    have HO2 := hide (HO1.out.later hb2)
    have HR2 : Hid (Blk w2 w1.heap.size 24 [.slice A1 n c1]) := hide (by rw [hw2]; exact Blk.new _ _ _)
    have hs2 := hb2.size
    clear hw2 hb2
    refine (isCycS _ n _ rows true _ HN.out (by omega) HRL.out HO2.out.rd HRK.out).mono ?_
    rintro e w3 ⟨rfl, hb3⟩
    have HB3 := hide (HB2.out.trans (hb3.mono HB2.out.size))
    have HK3 := hide (HK2.out.later hb3)
    have HO3 := hide (HO2.out.later hb3)
    have HR3 := hide (HR2.out.later hb3)
    have hs3 := hb3.size
    clear hb3
    have k0 := HR3.out.cell 0 _ rfl
    have k2 := HK3.out.cell 0 _ rfl
    have k3 := HK3.out.frozen 0
    have hlow : w.heap.size < w1.heap.size := HK1.out.lt
    go_wp2_with fail
    refine bp_gen fun wf hwf => ?_
    obtain ⟨q0, hbf, hof⟩ := kend hwf HK3.out (Nat.le_refl _) HB3.out (HO3.out) HLO.out HLOW.out (by omega)
    clear hwf k0 k2 k3
    exact bodyPost_ret (v := .tuple #[.agg #[.slice A1 n c1], .int .i64 0]) (by simp [results, Tryd.results4, go_sem, q0]) rfl ⟨_, _, rfl, hbf, hof⟩
  · have hk0 : k = 0 := by rw [← hk]; rfl
    subst hk0
    have HRK : Hid (CyRes rows false) := hide ⟨fun h => (by cases h), fun h => absurd (hpt.cyc.1 h) hg⟩
    clear hg hpt hn hrl0 hk
    rcases HPT.out with ⟨_, _, hcd⟩ | ⟨_, hrw, hcd⟩
    · subst hcd
      go_enter Tryd.func4, Tryd.ntmps4
      go_wp2_with fail
      refine calls_gen fun wp hwp => ?_
      replace HB0 : Hid (Below w.heap.size w wp) := hide (by rw [hwp]; exact HB0.out)
      replace HK0 : Hid (Blk wp w.heap.size 24 [.slice none 0 0]) := hide (by rw [hwp]; exact HK0.out)
      clear hwp
      refine (l01Parse_any s rows 0 true n _ hb HPT.out (by simp) HN.out).mono ?_
      rintro e w1 ⟨A1, c1, rfl, hb1, ho1⟩
      have HLOW : Hid (w.heap.size < wp.heap.size) := hide HK0.out.lt
      have HLO : Hid (w.heap.size ≤ wp.heap.size) := hide (Nat.le_of_lt HLOW.out)
      have HB1 := hide (HB0.out.trans (hb1.mono HB0.out.size))
      have HK1 := hide (HK0.out.later hb1)
      have HO1 := hide ho1
      clear hb1 ho1
      go_wp2_with fail
      refine calls_gen fun w2 hw2 => ?_
      have hb2 : Below w1.heap.size w1 w2 := by rw [hw2]; exact (Below.refl _ _).alloc (Nat.le_refl _) _
      have HB2 := hide (HB1.out.trans (hb2.mono HB1.out.size))
      have HK2 := hide (HK1.out.later hb2)
      have HO2 := hide (HO1.out.later hb2)
      have HR2 : Hid (Blk w2 w1.heap.size 24 [.slice A1 n c1]) := hide (by rw [hw2]; exact Blk.new _ _ _)
      have hs2 := hb2.size
      clear hw2 hb2
      refine (isCycS _ n _ rows false _ HN.out (by omega) HRL.out HO2.out.rd HRK.out).mono ?_
      rintro e w3 ⟨rfl, hb3⟩
      have HB3 := hide (HB2.out.trans (hb3.mono HB2.out.size))
      have HK3 := hide (HK2.out.later hb3)
      have HO3 := hide (HO2.out.later hb3)
      have HR3 := hide (HR2.out.later hb3)
      have hs3 := hb3.size
      clear hb3
      have k2 := HK3.out.cell 0 _ rfl
      have k3 := HK3.out.frozen 0
      go_wp2_with fail
      refine bp_gen fun wf hwf => ?_
      have HRF : Blk wf w.heap.size 24 [.slice none 0 0] := by rw [hwf]; first | exact HK3.out | exact HK3.out.set 0 _
      have hbf : Below w.heap.size w wf := by rw [hwf]; first | exact HB3.out | exact HB3.out.setCell (p := ⟨w.heap.size, 0, none⟩) (Nat.le_refl _) _
      have q0 := HRF.cell 0 _ rfl
      clear hwf k2 k3
      exact bodyPost_ret (v := .tuple #[.agg #[.slice none 0 0], .int .i64 6]) (by simp [results, Tryd.results4, go_sem, q0]) rfl ⟨_, _, rfl, hbf, .inl ⟨rfl, rfl⟩⟩
    · subst hcd
      go_enter Tryd.func4, Tryd.ntmps4
      go_wp2_with fail
      refine calls_gen fun wp hwp => ?_
      replace HB0 : Hid (Below w.heap.size w wp) := hide (by rw [hwp]; exact HB0.out)
      replace HK0 : Hid (Blk wp w.heap.size 24 [.slice none 0 0]) := hide (by rw [hwp]; exact HK0.out)
      clear hwp
      refine (l01Parse_any s rows 6 false n _ hb HPT.out (by simp) HN.out).mono ?_
      rintro e w1 ⟨A1, c1, rfl, hb1, ho1⟩
      have HLOW : Hid (w.heap.size < wp.heap.size) := hide HK0.out.lt
      have HLO : Hid (w.heap.size ≤ wp.heap.size) := hide (Nat.le_of_lt HLOW.out)
      have HB1 := hide (HB0.out.trans (hb1.mono HB0.out.size))
      have HK1 := hide (HK0.out.later hb1)
      have HO1 := hide ho1
      clear hb1 ho1
      have k2 := fun o => (HK1.out.alloc o).cell 0 _ rfl
      have k3 := fun o => (HK1.out.alloc o).frozen 0
      go_wp2_with fail
      refine bp_gen fun wf hwf => ?_
      have HRF : Blk wf w.heap.size 24 [.slice none 0 0] := by rw [hwf]; exact (HK1.out.alloc _).set 0 _
      have hbf : Below w.heap.size w wf := by rw [hwf]; exact (HB1.out.alloc HB1.out.size _).setCell (p := ⟨w.heap.size, 0, none⟩) (Nat.le_refl _) _
      have q0 := HRF.cell 0 _ rfl
      clear hwf k2 k3
      exact bodyPost_ret (v := .tuple #[.agg #[.slice none 0 0], .int .i64 6]) (by simp [results, Tryd.results4, go_sem, q0]) rfl ⟨_, _, rfl, hbf, .inl ⟨rfl, rfl⟩⟩
end Go.Proofs.YtgahmfkmhaeniabDoor
