import Derived.Test.YtljdfanebjhhmaaZad
namespace Go.Proofs.Ytljdfanebjhhmaa
open Go Go.RowKit
set_option maxHeartbeats 1000000

set_option maxRecDepth 100000 in
theorem tableOf_any (F : FuncId) (lb : Array Value) (n : Nat) (h : Nat → Nat → Int) (w : World) (eg : ∀ args w, (callFunc F args).run Try.prog w = .ok (.enter F args) w) (h0 : 1 ≤ n) (h12 : n ≤ 12) (hp : CellFn Try.prog F lb n h w) :
    Calls Try.prog 82 #[.int .i64 n, .func (.func F) #[] lb] w fun e w' => ∃ A c, e = .returned (.slice A n c) ∧ Below w.heap.size w w' ∧ Obj2 33 2 w.heap.size w'.heap.size w' A (grid n h) := by
  have HPF := hide hp
  clear hp
  obtain ⟨N, hN⟩ : ∃ N, n * n = N := ⟨_, rfl⟩
  have hN144 : N ≤ 144 := by rw [← hN]; exact sq_le n h12
  have HN := hide hN
  clear hN
  go_enter Try.func82, Try.ntmps82
  go_wp2_with fail
  refine calls_gen fun w0 hw0 => ?_
  have HB0 : Hid (Below w.heap.size w w0) := hide (by rw [hw0]; first | exact Below.refl _ _ | exact (Below.refl _ _).drew)
  have Z0 : Hid (w0.heap.size = w.heap.size) := hide (by first | (rw [hw0]; done) | (rw [hw0]; simp))
  clear hw0
  refine (newTable_any n _ (by omega)).mono ?_
  rintro e w1 ⟨rfl, hb1, ht1, hs1⟩
  have HB1 := hide (HB0.out.trans (hb1.mono HB0.out.size))
  have HT1 := hide ht1
  have Z1 := hide hs1
  clear hb1 ht1 hs1
  go_wp2_with fail
  refine (pairsOf_any n N _ h0 h12 HN.out).mono ?_
  rintro e w4 ⟨g, rfl, hb4, hg4, hpa⟩
  have HB4 := hide (HB1.out.trans (hb4.mono HB1.out.size))
  have HT4 := hide (HT1.out.later hb4)
  have HPA4 := hide hpa
  have hs4 := hb4.size
  clear hb4 hpa
  obtain ⟨T, hT⟩ : ∃ T, w0.heap.size = T := ⟨_, rfl⟩
  have ZT : Hid (T = w.heap.size ∧ T + 1 + n ≤ w4.heap.size ∧ T + 1 + n ≤ g) := hide (by have := Z0.out; have := Z1.out; omega)
  rw [hT] at HT4
  rw [hT]
  go_wp2_with fail
  go_loopw [13] (fun i wr => ∃ k : Nat, k ≤ N ∧ i = .int .i64 k ∧ Below w.heap.size w wr ∧ w4.heap.size ≤ wr.heap.size ∧ PairsAt wr g n ∧ TabF 33 2 wr T (fun i => T + 1 + i) n (rfTo h n k)) (fun i _ => N - (intOf i).toNat)
  case atStart => exact ⟨0, Nat.zero_le _, rfl, HB4.out, Nat.le_refl _, HPA4.out, HT4.out.congr (fun a b _ _ => by simp [rfTo])⟩
  case round =>
    obtain ⟨k, hk, rfl, hbe, hsz, hpa, ht1⟩ := hrel
    have HB := hide hbe
    have HPA := hide hpa
    have HT := hide ht1
    clear hbe hpa ht1
    by_cases hlt : k < N
    · have hkz : (k : Int) < N := by omega
      obtain ⟨p0, p1⟩ := HPA.out.2 k (by rw [HN.out]; exact hlt)
      have hxn : k / n < n := div_lt_sq (by rw [HN.out]; exact hlt)
      have hyn : k % n < n := mod_lt_sq (by rw [HN.out]; exact hlt)
      obtain ⟨x, hx⟩ : ∃ x, k / n = x := ⟨_, rfl⟩
      obtain ⟨y, hy⟩ : ∃ y, k % n = y := ⟨_, rfl⟩
      rw [hx] at p0 hxn
      rw [hy] at p1 hyn
      have HX := hide hx
      have HY := hide hy
      have hxz : (x : Int) < n := by omega
      have hyz : (y : Int) < n := by omega
      clear hx hy
      go_wp2_with fail
      refine wp_gen fun w5 hw5 => ?_
      obtain ⟨P, hPe⟩ : ∃ P, wr.heap.size = P := ⟨_, rfl⟩
      have hb5 : Below wr.heap.size wr w5 := by rw [hw5]; exact (Below.refl _ _).alloc (Nat.le_refl _) _
      have HPP : Hid (w4.heap.size ≤ P) := hide (by rw [← hPe]; exact hsz)
      have HBc := hide (HB.out.trans (hb5.mono HB.out.size))
      have HAc := hide (HPA.out.later hb5)
      have HTc := hide (HT.out.later hb5)
      have HPc : Hid (Blk w5 P 84 [.int .i64 x, .int .i64 y]) := hide (by rw [hw5, ← hPe]; exact Blk.new _ _ _)
      have hszc : w4.heap.size ≤ w5.heap.size := by have := hb5.size; omega
      rw [hPe]
      clear hw5 hb5 p0 p1 hPe
      obtain ⟨C1, t1⟩ := HTc.out.top
      obtain ⟨cx, hcx⟩ : ∃ a, C1 x = a := ⟨_, rfl⟩
      obtain ⟨X, hX⟩ : ∃ a, T + 1 + x = a := ⟨_, rfl⟩
      have HXX := hide hX
      have HTOP : Hid (T < w5.heap.size ∧ w5.cell? ⟨T, x, none⟩ = some (.slice (some ⟨X, 0, none⟩) n cx)) := hide ⟨t1.lt, by rw [← hX, ← hcx]; exact t1.cell hxn⟩
      clear t1 hcx hX
      have k1 := HPc.out.cell 0 _ rfl
      have k2 := HPc.out.cell 1 _ rfl
      have k3 := HTOP.out.2
      have ne1 : P ≠ X := by have := HPP.out; have := ZT.out; have := HXX.out; omega
      have ne2 : T ≠ X := by have := HXX.out; omega
      have ne3 := ne1.symm
      have ne4 := ne2.symm
      go_region_held3 (fun w' => w'.cell? ⟨P, 0, none⟩ = some (.int .i64 x) ∧ w'.cell? ⟨P, 1, none⟩ = some (.int .i64 y) ∧ w'.cell? ⟨T, x, none⟩ = some (.slice (some ⟨X, 0, none⟩) n cx)) (first | exact ⟨k1, k2, k3⟩ | go_keep) (first | (go_at_fn F; go_must (refine calls_gen fun wc hwc => ?_; have hbx : Below w5.heap.size w5 wc := (by rw [hwc]; first | exact Below.refl _ _ | exact (Below.refl _ _).drew); replace HBc := hide (HBc.out.trans (hbx.mono HBc.out.size)); replace HAc := hide (HAc.out.later hbx); replace HTc := hide (HTc.out.later hbx); replace HPc := hide (HPc.out.later hbx); replace hszc : w4.heap.size ≤ wc.heap.size := (by have := hbx.size; omega); replace HTOP : Hid (T < wc.heap.size ∧ wc.cell? ⟨T, x, none⟩ = some (.slice (some ⟨X, 0, none⟩) n cx)) := hide ⟨by have := hbx.size; have := HTOP.out.1; omega, (hbx.cell (p := ⟨T, x, none⟩) HTOP.out.1).trans HTOP.out.2⟩; clear hwc hbx; refine (HPF.out wc x y hxn hyn HBc.out).mono ?_; rintro e wd ⟨rfl, hbd⟩; replace HBc := hide (HBc.out.trans (hbd.mono HBc.out.size)); replace HAc := hide (HAc.out.later hbd); replace HTc := hide (HTc.out.later hbd); replace HPc := hide (HPc.out.later hbd); replace hszc : w4.heap.size ≤ wd.heap.size := (by have := hbd.size; omega); replace HTOP : Hid (T < wd.heap.size ∧ wd.cell? ⟨T, x, none⟩ = some (.slice (some ⟨X, 0, none⟩) n cx)) := hide ⟨by have := hbd.size; have := HTOP.out.1; omega, (hbd.cell (p := ⟨T, x, none⟩) HTOP.out.1).trans HTOP.out.2⟩; clear hbd; have k1 := HPc.out.cell 0 _ rfl; have k2 := HPc.out.cell 1 _ rfl; have k3 := HTOP.out.2; have k4 : wd.cell? ⟨X, y, none⟩ = some (.int .i64 (rfTo h n k x y)) := (by rw [← HXX.out]; exact (HTc.out.row x hxn).cell hyn); have k5 : wd.frozen? ⟨X, y, none⟩ = false := (by rw [← HXX.out]; exact (HTc.out.row x hxn).frozen y))))
      all_goals go_wp2_with fail
      all_goals go_roundw
      all_goals first
        | (simp [intOf]; omega)
        | (refine ⟨k + 1, by omega, by go_num, HBc.out.setCell (p := ⟨X, y, none⟩) (by show w.heap.size ≤ X; have := ZT.out; have := HXX.out; omega) _, by simpa [World.setCell] using hszc, HAc.out.away (p := ⟨X, y, none⟩) (by show g ≠ X; have := ZT.out; have := HXX.out; omega) _, ?_⟩
           have h1 : TabF 33 2 (wd.setCell ⟨T + 1 + x, y, none⟩ (.int .i64 (h x y))) T (fun i => T + 1 + i) n _ := HTc.out.set x y (h x y) hxn
           rw [HXX.out] at h1
           exact h1.congr (rfTo_upd h n k x y HX.out HY.out hyn))
    · have hkn : k = N := by omega
      subst hkn
      go_wp2_with fail
      have z0 := ZT.out
      have HF1 : TabF 33 2 wr T (fun i => T + 1 + i) n h := HT.out.congr (fun a b ha hb => by unfold rfTo; rw [if_pos (by rw [← HN.out]; exact pair_lt n a b ha hb)])
      go_ret
      exact ⟨_, _, rfl, HB.out, HF1.obj (by omega) (by omega) (fun i hi => by omega)⟩
end Go.Proofs.Ytljdfanebjhhmaa
