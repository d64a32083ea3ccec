import Derived.Test.YthkhkehpmolfaaaProg
import Derived.Test.YthkhkehpmolfaaaZo
import Derived.Test.YthkhkehpmolfaaaZi
import Derived.Test.YthkhkehpmolfaaaZf
import Derived.Test.YthkhkehpmolfaaaZam
import Derived.Shelf.Abstract
import Derived.Shelf.Lay
namespace Go.Proofs.Ythkhkehpmolfaaa
open Go Go.RowKit
set_option maxHeartbeats 1000000

/-- What is asked of the function value: at each pair of elements, in each later world, it hands back the pair of both functions' values, and leaves what there was. -/
def PairFnB (P : Program) (F : FuncId) (u : Value) (n : Nat) (h1 h2 : Nat → Nat → Int) (w : World) : Prop :=
  ∀ (W : World) (x y : Nat), x < n → y < n → Below w.heap.size w W → Calls P F #[u, .agg #[.int .i64 x, .int .i64 y]] W fun e w' => e = .returned (.agg #[.int .i64 (h1 x y), .int .i64 (h2 x y)]) ∧ Below W.heap.size W w'

/-- After k pairs. -/
def pmpTo (h : Nat → Nat → Int) (n k : Nat) : Nat → Nat → Int := fun a b => if a * n + b < k then h a b else 0
theorem pmpTo_upd (h : Nat → Nat → Int) (n k x y : Nat) (hx : k / n = x) (hy : k % n = y) (_hyn : y < n) : ∀ a b, a < n → b < n → updF (pmpTo h n k) x y (h x y) a b = pmpTo h n (k + 1) a b := by
  intro a b _ hb
  have hk : k = x * n + y := by rw [← hx, ← hy]; exact (pair_eta n k).symm
  unfold updF pmpTo
  by_cases e : a = x ∧ b = y
  · obtain ⟨rfl, rfl⟩ := e
    rw [if_pos ⟨rfl, rfl⟩, if_pos (by omega)]
  · rw [if_neg e]
    have hne : a * n + b ≠ k := fun hh => e (by
      have h1 := pair_div n a b hb
      have h2 := pair_mod n a b hb
      rw [hh] at h1 h2
      omega)
    by_cases h2 : a * n + b < k
    · rw [if_pos h2, if_pos (by omega)]
    · rw [if_neg h2, if_neg (by omega)]

set_option maxRecDepth 100000 in
theorem pmp_any (F : FuncId) (u : Value) (n : Nat) (h1 h2 : Nat → Nat → Int) (w : World) (eg : ∀ args w, (callFunc F args).run Try.prog w = .ok (.enter F args) w) (h0 : 1 ≤ n) (h12 : n ≤ 12) (hp : PairFnB Try.prog F u n h1 h2 w) :
    Calls Try.prog 96 #[.int .i64 n, .func (.func F) #[u] #[]] w fun e w' => ∃ A c B d, e = .returned (.agg #[.slice A n c, .slice B n d]) ∧ Below w.heap.size w w' ∧ ObjZ 31 2 w.heap.size w'.heap.size w' A (grid n h1) B (grid n h2) := by
  have HPF := hide hp
  clear hp
  obtain ⟨N, hN⟩ : ∃ N, n * n = N := ⟨_, rfl⟩
  have hN144 : N ≤ 144 := by rw [← hN]; exact sq_le n h12
  have HN := hide hN
  clear hN
  go_enter Try.func96, Try.ntmps96
  go_wp2_with fail
  refine calls_gen fun w0 hw0 => ?_
  have HB0 : Hid (Below w.heap.size w w0) := hide (by rw [hw0]; exact (Below.refl _ _).alloc (Nat.le_refl _) _)
  have HK0 : Hid (Blk w0 w.heap.size 41 [.slice none 0 0, .slice none 0 0]) := hide (by rw [hw0]; exact Blk.new _ _ _)
  have Z0 : Hid (w0.heap.size = w.heap.size + 1) := hide (by rw [hw0]; simp)
  clear hw0
  refine (newTable_any n _ (by omega)).mono ?_
  rintro e w1 ⟨rfl, hb1, ht1, hs1⟩
  have HB1 := hide (HB0.out.trans (hb1.mono HB0.out.size))
  have HK1 := hide (HK0.out.later hb1)
  have HT1 := hide ht1
  have Z1 := hide hs1
  clear hb1 ht1 hs1
  go_wp2_with fail
  refine (newTable_any n _ (by omega)).mono ?_
  rintro e w2 ⟨rfl, hb2, ht2, hs2⟩
  have HB2 := hide (HB1.out.trans (hb2.mono HB1.out.size))
  have HK2 := hide (HK1.out.later hb2)
  have HT12 := hide (HT1.out.later hb2)
  have HT2 := hide ht2
  have Z2 := hide hs2
  clear hb2 ht2 hs2
  go_wp2_with fail
  refine calls_gen fun w3 hw3 => ?_
  have hb3 : Below w2.heap.size w2 w3 := by rw [hw3]; exact (Below.refl _ _).alloc (Nat.le_refl _) _
  have HB3 := hide (HB2.out.trans (hb3.mono HB2.out.size))
  have HK3 := hide (HK2.out.later hb3)
  have HS3 : Hid (Blk w3 w2.heap.size 41 [.slice (some ⟨w0.heap.size, 0, none⟩) n n, .slice (some ⟨w1.heap.size, 0, none⟩) n n]) := hide (by rw [hw3]; exact Blk.new _ _ _)
  have HT13 := hide (HT12.out.later hb3)
  have HT23 := hide (HT2.out.later hb3)
  have Z3 : Hid (w3.heap.size = w2.heap.size + 1) := hide (by rw [hw3]; simp)
  clear hw3 hb3
  refine (pairsOf_any n N _ h0 h12 HN.out).mono ?_
  rintro e w4 ⟨g, rfl, hb4, hg4, hpa⟩
  have HB4 := hide (HB3.out.trans (hb4.mono HB3.out.size))
  have HK4 := hide (HK3.out.later hb4)
  have HS4 := hide (HS3.out.later hb4)
  have HT14 := hide (HT13.out.later hb4)
  have HT24 := hide (HT23.out.later hb4)
  have HPA4 := hide hpa
  have hs4 := hb4.size
  clear hb4 hpa
  go_wp2_with fail
  go_loopw [16] (fun i wr => ∃ k : Nat, k ≤ N ∧ i = .int .i64 k ∧ Below w.heap.size w wr ∧ w4.heap.size ≤ wr.heap.size ∧ Blk wr w.heap.size 41 [.slice none 0 0, .slice none 0 0] ∧ Blk wr w2.heap.size 41 [.slice (some ⟨w0.heap.size, 0, none⟩) n n, .slice (some ⟨w1.heap.size, 0, none⟩) n n] ∧ PairsAt wr g n ∧ TabF 31 2 wr w0.heap.size (fun i => w0.heap.size + 1 + i) n (pmpTo h1 n k) ∧ TabF 31 2 wr w1.heap.size (fun i => w1.heap.size + 1 + i) n (pmpTo h2 n k)) (fun i _ => N - (intOf i).toNat)
  case atStart => exact ⟨0, Nat.zero_le _, rfl, HB4.out, Nat.le_refl _, HK4.out, HS4.out, HPA4.out, HT14.out.congr (fun a b _ _ => by simp [pmpTo]), HT24.out.congr (fun a b _ _ => by simp [pmpTo])⟩
  case round =>
    obtain ⟨k, hk, rfl, hbe, hsz, hkk, hss, hpa, ht1, ht2⟩ := hrel
    have HB := hide hbe
    have HK := hide hkk
    have HS := hide hss
    have HPA := hide hpa
    have HT1 := hide ht1
    have HT2 := hide ht2
    clear hbe hkk hss hpa ht1 ht2
    by_cases hlt : k < N
    · have hkz : (k : Int) < N := by omega
      obtain ⟨p0, p1⟩ := HPA.out.2 k (by rw [HN.out]; exact hlt)
      have hxn : k / n < n := div_lt_sq (by rw [HN.out]; exact hlt)
      have hyn : k % n < n := mod_lt_sq (by rw [HN.out]; exact hlt)
      obtain ⟨x, hx⟩ : ∃ x, k / n = x := ⟨_, rfl⟩
      obtain ⟨y, hy⟩ : ∃ y, k % n = y := ⟨_, rfl⟩
      rw [hx] at p0 hxn
      rw [hy] at p1 hyn
      have HX := hide hx
      have HY := hide hy
      clear hx hy
      go_wp2_with fail
      refine wp_gen fun w5 hw5 => ?_
      obtain ⟨P, hPe⟩ : ∃ P, wr.heap.size = P := ⟨_, rfl⟩
      have hb5 : Below wr.heap.size wr w5 := by rw [hw5]; exact (Below.refl _ _).alloc (Nat.le_refl _) _
      have HPP : Hid (w4.heap.size ≤ P) := hide (by rw [← hPe]; exact hsz)
      have HBc := hide (HB.out.trans (hb5.mono HB.out.size))
      have HKc := hide (HK.out.later hb5)
      have HSc := hide (HS.out.later hb5)
      have HAc := hide (HPA.out.later hb5)
      have HT1c := hide (HT1.out.later hb5)
      have HT2c := hide (HT2.out.later hb5)
      have HPc : Hid (Blk w5 P 94 [.int .i64 x, .int .i64 y]) := hide (by rw [hw5, ← hPe]; exact Blk.new _ _ _)
      have hszc : w4.heap.size ≤ w5.heap.size := by have := hb5.size; omega
      rw [hPe]
      clear hw5 hb5 p0 p1 hPe
      have k0 := HSc.out.cell 0 _ rfl
      have k1 := HSc.out.cell 1 _ rfl
      have k2 := HPc.out.cell 0 _ rfl
      have k3 := HPc.out.cell 1 _ rfl
      go_region_held3 (fun w' => w'.cell? ⟨w2.heap.size, 0, none⟩ = some (.slice (some ⟨w0.heap.size, 0, none⟩) n n) ∧ w'.cell? ⟨w2.heap.size, 1, none⟩ = some (.slice (some ⟨w1.heap.size, 0, none⟩) n n) ∧ w'.cell? ⟨P, 0, none⟩ = some (.int .i64 x) ∧ w'.cell? ⟨P, 1, none⟩ = some (.int .i64 y)) (first | exact ⟨k0, k1, k2, k3⟩ | go_keep) (first | (go_at_fn F; go_must (refine calls_gen fun wc hwc => ?_; have hbx : Below w5.heap.size w5 wc := (by rw [hwc]; first | exact Below.refl _ _ | exact (Below.refl _ _).drew); replace HBc := hide (HBc.out.trans (hbx.mono HBc.out.size)); replace HKc := hide (HKc.out.later hbx); replace HSc := hide (HSc.out.later hbx); replace HAc := hide (HAc.out.later hbx); replace HT1c := hide (HT1c.out.later hbx); replace HT2c := hide (HT2c.out.later hbx); replace HPc := hide (HPc.out.later hbx); replace hszc : w4.heap.size ≤ wc.heap.size := (by have := hbx.size; omega); clear hwc hbx; refine (HPF.out wc x y hxn hyn HBc.out).mono ?_; rintro e wd ⟨rfl, hbd⟩; replace HBc := hide (HBc.out.trans (hbd.mono HBc.out.size)); replace HKc := hide (HKc.out.later hbd); replace HSc := hide (HSc.out.later hbd); replace HAc := hide (HAc.out.later hbd); replace HT1c := hide (HT1c.out.later hbd); replace HT2c := hide (HT2c.out.later hbd); replace HPc := hide (HPc.out.later hbd); replace hszc : w4.heap.size ≤ wd.heap.size := (by have := hbd.size; omega); clear hbd; have k0 := HSc.out.cell 0 _ rfl; have k1 := HSc.out.cell 1 _ rfl; have k2 := HPc.out.cell 0 _ rfl; have k3 := HPc.out.cell 1 _ rfl)) | (go_at_call 121; go_must (refine (set_any w0.heap.size w1.heap.size w2.heap.size _ _ _ _ n _ _ _ _ x y _ _ _ HT1c.out HT2c.out (by have z1 := Z1.out; omega) (fun i hi => by have z1 := Z1.out; omega) (by have z2 := Z2.out; omega) (fun i hi => by have z2 := Z2.out; omega) (by have z3 := Z3.out; omega) h12 hxn hyn).mono ?_; rintro e wd ⟨rfl, htd, ht1, ht2⟩; replace HBc := hide (htd.below HBc.out HBc.out.size (by have z0 := Z0.out; omega)); replace HKc := hide (HKc.out.touch htd (.inl (by have z0 := Z0.out; omega))); replace HSc := hide (HSc.out.touch htd (.inr (Nat.le_refl _))); replace HPc := hide (HPc.out.touch htd (.inr (by have := HPP.out; have z3 := Z3.out; omega))); replace HAc : Hid (PairsAt wd g n) := hide (HAc.out.touch htd (.inr (by have z3 := Z3.out; omega))); replace HT1c := hide ht1; replace HT2c := hide ht2; replace hszc : w4.heap.size ≤ wd.heap.size := (by have := htd.size; omega); clear htd ht1 ht2; have k0 := HSc.out.cell 0 _ rfl; have k1 := HSc.out.cell 1 _ rfl; have k2 := HPc.out.cell 0 _ rfl; have k3 := HPc.out.cell 1 _ rfl)))
      go_wp2_with fail
      go_roundw
      case rel => exact ⟨k + 1, by omega, by go_num, HBc.out, hszc, HKc.out, HSc.out, HAc.out, HT1c.out.congr (pmpTo_upd h1 n k x y HX.out HY.out hyn), HT2c.out.congr (pmpTo_upd h2 n k x y HX.out HY.out hyn)⟩
      case measure => simp [intOf]; omega
    · have hkn : k = N := by omega
      subst hkn
      have k0 := HS.out.cell 0 _ rfl
      have k1 := HS.out.cell 1 _ rfl
      have k2 := HK.out.cell 0 _ rfl
      have k3 := HK.out.cell 1 _ rfl
      have k4 := HK.out.frozen 0
      have k5 := HK.out.frozen 1
      go_wp2_with fail
      refine bp_gen fun wf hwf => ?_
      have HRF : Blk wf w.heap.size 41 [.slice (some ⟨w0.heap.size, 0, none⟩) n n, .slice (some ⟨w1.heap.size, 0, none⟩) n n] := by rw [hwf]; exact ((HK.out.set 0 _).set 1 _)
      have HBF : Below w.heap.size w wf := by rw [hwf]; exact ((HB.out.setCell (p := ⟨w.heap.size, 0, none⟩) (Nat.le_refl _) _).setCell (p := ⟨w.heap.size, 1, none⟩) (Nat.le_refl _) _)
      have z0 := Z0.out
      have z1 := Z1.out
      have z2 := Z2.out
      have z3 := Z3.out
      have HF1 : TabF 31 2 wf w0.heap.size (fun i => w0.heap.size + 1 + i) n h1 := by rw [hwf]; exact ((HT1.out.far1 (p := ⟨w.heap.size, 0, none⟩) (by show w0.heap.size ≠ w.heap.size; omega) (fun i hi => by show w0.heap.size + 1 + i ≠ w.heap.size; omega) _).far1 (p := ⟨w.heap.size, 1, none⟩) (by show w0.heap.size ≠ w.heap.size; omega) (fun i hi => by show w0.heap.size + 1 + i ≠ w.heap.size; omega) _).congr (fun a b ha hb => by unfold pmpTo; rw [if_pos (by rw [← HN.out]; exact pair_lt n a b ha hb)])
      have HF2 : TabF 31 2 wf w1.heap.size (fun i => w1.heap.size + 1 + i) n h2 := by rw [hwf]; exact ((HT2.out.far1 (p := ⟨w.heap.size, 0, none⟩) (by show w1.heap.size ≠ w.heap.size; omega) (fun i hi => by show w1.heap.size + 1 + i ≠ w.heap.size; omega) _).far1 (p := ⟨w.heap.size, 1, none⟩) (by show w1.heap.size ≠ w.heap.size; omega) (fun i hi => by show w1.heap.size + 1 + i ≠ w.heap.size; omega) _).congr (fun a b ha hb => by unfold pmpTo; rw [if_pos (by rw [← HN.out]; exact pair_lt n a b ha hb)])
      have hsf : wf.heap.size = wr.heap.size := by rw [hwf]; simp [World.setCell]
      have q0 := HRF.cell 0 _ rfl
      have q1 := HRF.cell 1 _ rfl
      clear hwf k0 k1 k2 k3 k4 k5
      exact bodyPost_ret (v := .agg #[.slice (some ⟨w0.heap.size, 0, none⟩) n n, .slice (some ⟨w1.heap.size, 0, none⟩) n n]) (by simp [results, Try.results96, go_sem, q0, q1]) rfl ⟨_, _, _, _, rfl, HBF, w1.heap.size, by omega, by omega, HF1.obj (by omega) (by omega) (fun i hi => by omega), HF2.obj (by omega) (by omega) (fun i hi => by omega)⟩
end Go.Proofs.Ythkhkehpmolfaaa
