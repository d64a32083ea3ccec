import Derived.Test.YtgmloaemnbnbgaaProg
import Derived.Test.YtgmloaemnbnbgaaZl
import Derived.Test.YtgmloaemnbnbgaaZg
import Derived.Test.YtgmloaemnbnbgaaZe
import Derived.Test.YtgmloaemnbnbgaaZaa
import Derived.Shelf.Abstract
import Derived.Shelf.Lay
import Derived.Test.YtgmloaemnbnbgaaZv
import Derived.Test.YtgmloaemnbnbgaaZbg
import Derived.Test.YtgmloaemnbnbgaaZbb
import Derived.Test.YtgmloaemnbnbgaaZbc
import Derived.Test.YtgmloaemnbnbgaaZj
import Derived.Test.YtgmloaemnbnbgaaZh
import Derived.RangeFuncLeaves
import Derived.RangeFuncBox
import Derived.LoopNIn
import Derived.LoopIn
import Derived.RegionIn
import Derived.RangeFuncCalls
import Derived.Deep.Cut
import Derived.Deep.RegionHeld3
namespace Go.Proofs.Ytgmloaemnbnbgaa
open Go Go.RowKit
set_option maxHeartbeats 1000000

/-- What is asked of the function value: at each pair of elements, in each later world, it hands back the pair of both functions' values, and leaves what there was. -/
def PairFnB (P : Program) (F : FuncId) (u : Value) (n : Nat) (h1 h2 : Nat → Nat → Int) (w : World) : Prop :=
  ∀ (W : World) (x y : Nat), x < n → y < n → Below w.heap.size w W → Calls P F #[u, .agg #[.int .i64 x, .int .i64 y]] W fun e w' => e = .returned (.agg #[.int .i64 (h1 x y), .int .i64 (h2 x y)]) ∧ Below W.heap.size W w'

/-- After k pairs. -/
def pmpTo (h : Nat → Nat → Int) (n k : Nat) : Nat → Nat → Int := fun a b => if a * n + b < k then h a b else 0
theorem pmpTo_upd (h : Nat → Nat → Int) (n k x y : Nat) (hx : k / n = x) (hy : k % n = y) (_hyn : y < n) : ∀ a b, a < n → b < n → updF (pmpTo h n k) x y (h x y) a b = pmpTo h n (k + 1) a b := by
  intro a b _ hb
  have hk : k = x * n + y := by rw [← hx, ← hy]; exact (pair_eta n k).symm
  unfold updF pmpTo
  by_cases e : a = x ∧ b = y
  · obtain ⟨rfl, rfl⟩ := e
    rw [if_pos ⟨rfl, rfl⟩, if_pos (by omega)]
  · rw [if_neg e]
    have hne : a * n + b ≠ k := fun hh => e (by
      have h1 := pair_div n a b hb
      have h2 := pair_mod n a b hb
      rw [hh] at h1 h2
      omega)
    by_cases h2 : a * n + b < k
    · rw [if_pos h2, if_pos (by omega)]
    · rw [if_neg h2, if_neg (by omega)]

set_option maxRecDepth 100000 in
theorem pmp_any (F : FuncId) (u : Value) (n : Nat) (h1 h2 : Nat → Nat → Int) (w : World) (eg : ∀ args w, (callFunc F args).run Try.prog w = .ok (.enter F args) w) (h0 : 1 ≤ n) (h12 : n ≤ 12) (hp : PairFnB Try.prog F u n h1 h2 w) :
    Calls Try.prog 60 #[.int .i64 n, .func (.func F) #[u] #[]] w fun e w' => ∃ A c B d, e = .returned (.agg #[.slice A n c, .slice B n d]) ∧ Below w.heap.size w w' ∧ ObjZ 26 2 w.heap.size w'.heap.size w' A (grid n h1) B (grid n h2) := by
  have HPF := hide hp
  clear hp
  obtain ⟨N, hN⟩ : ∃ N, n * n = N := ⟨_, rfl⟩
  have hN144 : N ≤ 144 := by rw [← hN]; exact sq_le n h12
  have HN := hide hN
  clear hN
  go_enter Try.func60, Try.ntmps60
  go_wp2_with fail
  refine calls_gen fun w0 hw0 => ?_
  have HB0 : Hid (Below w.heap.size w w0) := hide (by rw [hw0]; exact (Below.refl _ _).alloc (Nat.le_refl _) _)
  have HK0 : Hid (Blk w0 w.heap.size 29 [.slice none 0 0, .slice none 0 0]) := hide (by rw [hw0]; exact Blk.new _ _ _)
  have Z0 : Hid (w0.heap.size = w.heap.size + 1) := hide (by rw [hw0]; simp)
  clear hw0
  refine (newTable_any n _ (by omega)).mono ?_
  rintro e w1 ⟨rfl, hb1, ht1, hs1⟩
  have HB1 := hide (HB0.out.trans (hb1.mono HB0.out.size))
  have HK1 := hide (HK0.out.later hb1)
  have HT1 := hide ht1
  have Z1 := hide hs1
  clear hb1 ht1 hs1
  go_wp2_with fail
  refine (newTable_any n _ (by omega)).mono ?_
  rintro e w2 ⟨rfl, hb2, ht2, hs2⟩
  have HB2 := hide (HB1.out.trans (hb2.mono HB1.out.size))
  have HK2 := hide (HK1.out.later hb2)
  have HT12 := hide (HT1.out.later hb2)
  have HT2 := hide ht2
  have Z2 := hide hs2
  clear hb2 ht2 hs2
  go_wp2_with fail
  refine calls_gen fun w3 hw3 => ?_
  have hb3 : Below w2.heap.size w2 w3 := by rw [hw3]; exact (Below.refl _ _).alloc (Nat.le_refl _) _
  have HB3 := hide (HB2.out.trans (hb3.mono HB2.out.size))
  have HK3 := hide (HK2.out.later hb3)
  have HS3 : Hid (Blk w3 w2.heap.size 29 [.slice (some ⟨w0.heap.size, 0, none⟩) n n, .slice (some ⟨w1.heap.size, 0, none⟩) n n]) := hide (by rw [hw3]; exact Blk.new _ _ _)
  have HT13 := hide (HT12.out.later hb3)
  have HT23 := hide (HT2.out.later hb3)
  have Z3 : Hid (w3.heap.size = w2.heap.size + 1) := hide (by rw [hw3]; simp)
  clear hw3 hb3
  refine (pairsOf_any n N _ h0 h12 HN.out).mono ?_
  rintro e w4 ⟨g, rfl, hb4, hg4, hpa⟩
  have HB4 := hide (HB3.out.trans (hb4.mono HB3.out.size))
  have HK4 := hide (HK3.out.later hb4)
  have HS4 := hide (HS3.out.later hb4)
  have HT14 := hide (HT13.out.later hb4)
  have HT24 := hide (HT23.out.later hb4)
  have HPA4 := hide hpa
  have hs4 := hb4.size
  clear hb4 hpa
  go_wp2_with fail
  go_loopw [16] (fun i wr => ∃ k : Nat, k ≤ N ∧ i = .int .i64 k ∧ Below w.heap.size w wr ∧ w4.heap.size ≤ wr.heap.size ∧ Blk wr w.heap.size 29 [.slice none 0 0, .slice none 0 0] ∧ Blk wr w2.heap.size 29 [.slice (some ⟨w0.heap.size, 0, none⟩) n n, .slice (some ⟨w1.heap.size, 0, none⟩) n n] ∧ PairsAt wr g n ∧ TabF 26 2 wr w0.heap.size (fun i => w0.heap.size + 1 + i) n (pmpTo h1 n k) ∧ TabF 26 2 wr w1.heap.size (fun i => w1.heap.size + 1 + i) n (pmpTo h2 n k)) (fun i _ => N - (intOf i).toNat)
  case atStart => exact ⟨0, Nat.zero_le _, rfl, HB4.out, Nat.le_refl _, HK4.out, HS4.out, HPA4.out, HT14.out.congr (fun a b _ _ => by simp [pmpTo]), HT24.out.congr (fun a b _ _ => by simp [pmpTo])⟩
  case round =>
    obtain ⟨k, hk, rfl, hbe, hsz, hkk, hss, hpa, ht1, ht2⟩ := hrel
    have HB := hide hbe
    have HK := hide hkk
    have HS := hide hss
    have HPA := hide hpa
    have HT1 := hide ht1
    have HT2 := hide ht2
    clear hbe hkk hss hpa ht1 ht2
    by_cases hlt : k < N
    · have hkz : (k : Int) < N := by omega
      obtain ⟨p0, p1⟩ := HPA.out.2 k (by rw [HN.out]; exact hlt)
      have hxn : k / n < n := div_lt_sq (by rw [HN.out]; exact hlt)
      have hyn : k % n < n := mod_lt_sq (by rw [HN.out]; exact hlt)
      obtain ⟨x, hx⟩ : ∃ x, k / n = x := ⟨_, rfl⟩
      obtain ⟨y, hy⟩ : ∃ y, k % n = y := ⟨_, rfl⟩
      rw [hx] at p0 hxn
      rw [hy] at p1 hyn
      have HX := hide hx
      have HY := hide hy
      clear hx hy
      go_wp2_with fail
      refine wp_gen fun w5 hw5 => ?_
      obtain ⟨P, hPe⟩ : ∃ P, wr.heap.size = P := ⟨_, rfl⟩
      have hb5 : Below wr.heap.size wr w5 := by rw [hw5]; exact (Below.refl _ _).alloc (Nat.le_refl _) _
      have HPP : Hid (w4.heap.size ≤ P) := hide (by rw [← hPe]; exact hsz)
      have HBc := hide (HB.out.trans (hb5.mono HB.out.size))
      have HKc := hide (HK.out.later hb5)
      have HSc := hide (HS.out.later hb5)
      have HAc := hide (HPA.out.later hb5)
      have HT1c := hide (HT1.out.later hb5)
      have HT2c := hide (HT2.out.later hb5)
      have HPc : Hid (Blk w5 P 89 [.int .i64 x, .int .i64 y]) := hide (by rw [hw5, ← hPe]; exact Blk.new _ _ _)
      have hszc : w4.heap.size ≤ w5.heap.size := by have := hb5.size; omega
      rw [hPe]
      clear hw5 hb5 p0 p1 hPe
      have k0 := HSc.out.cell 0 _ rfl
      have k1 := HSc.out.cell 1 _ rfl
      have k2 := HPc.out.cell 0 _ rfl
      have k3 := HPc.out.cell 1 _ rfl
      go_region_held3 (fun w' => w'.cell? ⟨w2.heap.size, 0, none⟩ = some (.slice (some ⟨w0.heap.size, 0, none⟩) n n) ∧ w'.cell? ⟨w2.heap.size, 1, none⟩ = some (.slice (some ⟨w1.heap.size, 0, none⟩) n n) ∧ w'.cell? ⟨P, 0, none⟩ = some (.int .i64 x) ∧ w'.cell? ⟨P, 1, none⟩ = some (.int .i64 y)) (first | exact ⟨k0, k1, k2, k3⟩ | go_keep) (first | (go_at_fn F; go_must (refine calls_gen fun wc hwc => ?_; have hbx : Below w5.heap.size w5 wc := (by rw [hwc]; first | exact Below.refl _ _ | exact (Below.refl _ _).drew); replace HBc := hide (HBc.out.trans (hbx.mono HBc.out.size)); replace HKc := hide (HKc.out.later hbx); replace HSc := hide (HSc.out.later hbx); replace HAc := hide (HAc.out.later hbx); replace HT1c := hide (HT1c.out.later hbx); replace HT2c := hide (HT2c.out.later hbx); replace HPc := hide (HPc.out.later hbx); replace hszc : w4.heap.size ≤ wc.heap.size := (by have := hbx.size; omega); clear hwc hbx; refine (HPF.out wc x y hxn hyn HBc.out).mono ?_; rintro e wd ⟨rfl, hbd⟩; replace HBc := hide (HBc.out.trans (hbd.mono HBc.out.size)); replace HKc := hide (HKc.out.later hbd); replace HSc := hide (HSc.out.later hbd); replace HAc := hide (HAc.out.later hbd); replace HT1c := hide (HT1c.out.later hbd); replace HT2c := hide (HT2c.out.later hbd); replace HPc := hide (HPc.out.later hbd); replace hszc : w4.heap.size ≤ wd.heap.size := (by have := hbd.size; omega); clear hbd; have k0 := HSc.out.cell 0 _ rfl; have k1 := HSc.out.cell 1 _ rfl; have k2 := HPc.out.cell 0 _ rfl; have k3 := HPc.out.cell 1 _ rfl)) | (go_at_call 97; go_must (refine (set_any w0.heap.size w1.heap.size w2.heap.size _ _ _ _ n _ _ _ _ x y _ _ _ HT1c.out HT2c.out (by have z1 := Z1.out; omega) (fun i hi => by have z1 := Z1.out; omega) (by have z2 := Z2.out; omega) (fun i hi => by have z2 := Z2.out; omega) (by have z3 := Z3.out; omega) h12 hxn hyn).mono ?_; rintro e wd ⟨rfl, htd, ht1, ht2⟩; replace HBc := hide (htd.below HBc.out HBc.out.size (by have z0 := Z0.out; omega)); replace HKc := hide (HKc.out.touch htd (.inl (by have z0 := Z0.out; omega))); replace HSc := hide (HSc.out.touch htd (.inr (Nat.le_refl _))); replace HPc := hide (HPc.out.touch htd (.inr (by have := HPP.out; have z3 := Z3.out; omega))); replace HAc : Hid (PairsAt wd g n) := hide (HAc.out.touch htd (.inr (by have z3 := Z3.out; omega))); replace HT1c := hide ht1; replace HT2c := hide ht2; replace hszc : w4.heap.size ≤ wd.heap.size := (by have := htd.size; omega); clear htd ht1 ht2; have k0 := HSc.out.cell 0 _ rfl; have k1 := HSc.out.cell 1 _ rfl; have k2 := HPc.out.cell 0 _ rfl; have k3 := HPc.out.cell 1 _ rfl)))
      go_wp2_with fail
      go_roundw
      case rel => exact ⟨k + 1, by omega, by go_num, HBc.out, hszc, HKc.out, HSc.out, HAc.out, HT1c.out.congr (pmpTo_upd h1 n k x y HX.out HY.out hyn), HT2c.out.congr (pmpTo_upd h2 n k x y HX.out HY.out hyn)⟩
      case measure => simp [intOf]; omega
    · have hkn : k = N := by omega
      subst hkn
      have k0 := HS.out.cell 0 _ rfl
      have k1 := HS.out.cell 1 _ rfl
      have k2 := HK.out.cell 0 _ rfl
      have k3 := HK.out.cell 1 _ rfl
      have k4 := HK.out.frozen 0
      have k5 := HK.out.frozen 1
      go_wp2_with fail
      refine bp_gen fun wf hwf => ?_
      have HRF : Blk wf w.heap.size 29 [.slice (some ⟨w0.heap.size, 0, none⟩) n n, .slice (some ⟨w1.heap.size, 0, none⟩) n n] := by rw [hwf]; exact ((HK.out.set 0 _).set 1 _)
      have HBF : Below w.heap.size w wf := by rw [hwf]; exact ((HB.out.setCell (p := ⟨w.heap.size, 0, none⟩) (Nat.le_refl _) _).setCell (p := ⟨w.heap.size, 1, none⟩) (Nat.le_refl _) _)
      have z0 := Z0.out
      have z1 := Z1.out
      have z2 := Z2.out
      have z3 := Z3.out
      have HF1 : TabF 26 2 wf w0.heap.size (fun i => w0.heap.size + 1 + i) n h1 := by rw [hwf]; exact ((HT1.out.far1 (p := ⟨w.heap.size, 0, none⟩) (by show w0.heap.size ≠ w.heap.size; omega) (fun i hi => by show w0.heap.size + 1 + i ≠ w.heap.size; omega) _).far1 (p := ⟨w.heap.size, 1, none⟩) (by show w0.heap.size ≠ w.heap.size; omega) (fun i hi => by show w0.heap.size + 1 + i ≠ w.heap.size; omega) _).congr (fun a b ha hb => by unfold pmpTo; rw [if_pos (by rw [← HN.out]; exact pair_lt n a b ha hb)])
      have HF2 : TabF 26 2 wf w1.heap.size (fun i => w1.heap.size + 1 + i) n h2 := by rw [hwf]; exact ((HT2.out.far1 (p := ⟨w.heap.size, 0, none⟩) (by show w1.heap.size ≠ w.heap.size; omega) (fun i hi => by show w1.heap.size + 1 + i ≠ w.heap.size; omega) _).far1 (p := ⟨w.heap.size, 1, none⟩) (by show w1.heap.size ≠ w.heap.size; omega) (fun i hi => by show w1.heap.size + 1 + i ≠ w.heap.size; omega) _).congr (fun a b ha hb => by unfold pmpTo; rw [if_pos (by rw [← HN.out]; exact pair_lt n a b ha hb)])
      have hsf : wf.heap.size = wr.heap.size := by rw [hwf]; simp [World.setCell]
      have q0 := HRF.cell 0 _ rfl
      have q1 := HRF.cell 1 _ rfl
      clear hwf k0 k1 k2 k3 k4 k5
      exact bodyPost_ret (v := .agg #[.slice (some ⟨w0.heap.size, 0, none⟩) n n, .slice (some ⟨w1.heap.size, 0, none⟩) n n]) (by simp [results, Try.results60, go_sem, q0, q1]) rfl ⟨_, _, _, _, rfl, HBF, w1.heap.size, by omega, by omega, HF1.obj (by omega) (by omega) (fun i hi => by omega), HF2.obj (by omega) (by omega) (fun i hi => by omega)⟩
end Go.Proofs.Ytgmloaemnbnbgaa
namespace Go.Proofs.Ytgmloaemnbnbgaa
open Go Go.RowKit Go.Shelf
attribute [local go_sem] Oper.semAt_some
attribute [local irreducible] serK lstTo siz ser
set_option maxHeartbeats 4000000
set_option maxRecDepth 100000 in
theorem laI (A : Option Addr) (n c : Nat) (f : List (List Int)) (B : Option Addr) (m d : Nat) (s : List (List Int)) (zf zg : List (List Int)) (code : Int) (kz kw : Nat) (w : World) (hz : ZArg 1048576 w A n f B m s) (hr : LaRes f s zf zg code) (hk : ZSz 1048576 zf kz zg kw) :
    Calls Try.prog 32 #[.agg #[.slice A n c, .slice B m d]] w (ZPost 26 2 kz kw zf zg code w) := by
  have HZ := hide hz
  have HFL := hide hz.sz.fl
  rcases hr with ⟨hp, rfl, rfl, rfl⟩ | ⟨hp, rfl, rfl, rfl⟩
  · obtain rfl := hz.same hp.map
    have h1 := (hp.sizes hz.sz.fl).1
    have h12 := (hp.sizes hz.sz.fl).2.1
    have HG := hide hp
    have hkw : kw = kz := by rw [← hk.fl, ← hk.sl, ← siz_fst8]; exact siz_snd hp (serK f s)
    obtain rfl := hkw
    have HKZ : Hid (siz f s (serK f s) = kw) := hide (by rw [siz_fst8]; exact hk.fl)
    have hp1 := siz_pos hp (serK f s)
    have hp12 := siz_12 hp (serK f s)
    rw [HKZ.out] at hp1 hp12
    have hmp := (ser_nds hp (serK f s)).map
    obtain ⟨zf, hzf⟩ : ∃ z, (ser f s (serK f s)).1 = z := ⟨_, rfl⟩
    obtain ⟨zg, hzg⟩ : ∃ z, (ser f s (serK f s)).2 = z := ⟨_, rfl⟩
    rw [hzf, hzg] at hmp ⊢
    have HZF := hide hzf
    have HZG := hide hzg
    have HPM := hide hmp
    have HGF := hide (ap_grid hmp.1 (n := kw) (by rw [← hzf, ← siz_fst8]; exact HKZ.out))
    have HGG := hide (ap_grid hmp.2.1 (n := kw) (by rw [← hmp.2.2, ← hzf, ← siz_fst8]; exact HKZ.out))
    clear hzf hzg hmp
    clear hp hz hk
    refine (callsIn_wide (n := 6)).1 ?_
    refine callsIn_of_wp_marks Try.func32 rfl trivial ?_ rfl
    simp only [Try.ntmps32, List.size_toArray, List.length_cons, List.length_nil, Nat.reduceAdd, Nat.reduceSub, Array.replicate_succ, Array.replicate_zero, List.push_toArray, List.append_toArray, List.nil_append, List.cons_append]
    refine wpIn_wide.2 ?_
    go_wp2_with fail
    refine calls_gen fun w0 hw0 => ?_
    have hb0 : Below w.heap.size w w0 := by rw [hw0]; exact ((Below.refl _ _).alloc (Nat.le_refl _) _).alloc (by simp) _
    have HB0 := hide hb0
    have HK0 : Hid (Blk w0 w.heap.size 29 [.slice A m c, .slice B m d]) := hide (by rw [hw0]; exact (Blk.new _ _ _).alloc _)
    have HR0 : Hid (Blk w0 (w.heap.size + 1) 29 [.slice none 0 0, .slice none 0 0]) := hide (by rw [hw0]; have h := Blk.new (w.alloc (Obj.cells #[Value.slice A m c, Value.slice B m d] 29)) 29 [.slice none 0 0, .slice none 0 0]; simpa using h)
    clear hw0 hb0
    refine (nd7I _ _ _ f _ _ _ s true _ (HZ.out.later HB0.out) (by simp [HG.out])).mono ?_
    rintro e w1 ⟨rfl, hb1⟩
    have HB1 := hide (HB0.out.trans (hb1.mono HB0.out.size))
    have HK1 := hide (HK0.out.later hb1)
    have HR1 := hide (HR0.out.later hb1)
    have k0 := HK1.out.cell 0 _ rfl
    have k1 := HK1.out.cell 1 _ rfl
    clear hb1
    go_upto_region 4 with fail
    refine wp_gen fun w2 hw2 => ?_
    have hb2 : Below w1.heap.size w1 w2 := by rw [hw2]; first | exact (Below.refl _ _).alloc (Nat.le_refl _) _ | exact (((Below.refl _ _).alloc (Nat.le_refl _) _).setCell (p := ⟨w1.heap.size, 0, none⟩) (Nat.le_refl _) _).setCell (p := ⟨w1.heap.size, 1, none⟩) (Nat.le_refl _) _
    have HB2 := hide (HB1.out.trans (hb2.mono HB1.out.size))
    have HR2 := hide (HR1.out.later hb2)
    have HQ2 : Hid (Blk w2 w1.heap.size 29 [.slice A m c, .slice B m d]) := hide (by rw [hw2]; first | exact Blk.new _ _ _ | exact ((Blk.new _ _ _).set 0 _).set 1 _)
    have HS2 : Hid (w2.heap.size = w1.heap.size + 1) := hide (by rw [hw2]; simp)
    have hq0 : w.heap.size + 1 < w1.heap.size := HR1.out.lt
    clear hw2 k0 k1
    obtain ⟨q, hq⟩ : ∃ q, w1.heap.size = q := ⟨_, rfl⟩
    rw [hq] at HQ2 HS2 hq0 ⊢
    clear hq
    have HK2 := hide (HK1.out.later hb2)
    clear hb2
    have k0 := HK2.out.cell 0 _ rfl
    have k1 := HK2.out.cell 1 _ rfl
    go_wp2_with fail
    refine (serC_any _ _ _).mono ?_
    rintro e w3 ⟨rfl, hw3⟩
    have hb3 : Below w2.heap.size w2 w3 := by rw [hw3]; exact (Below.refl _ _).alloc (Nat.le_refl _) _
    have HB3 := hide (HB2.out.trans (hb3.mono HB2.out.size))
    have HR3 := hide (HR2.out.later hb3)
    have HQ3 := hide (HQ2.out.later hb3)
    have HP3 : Hid (Blk w3 w2.heap.size 29 [.slice A m c, .slice B m d]) := hide (by rw [hw3]; exact Blk.new _ _ _)
    have HS3 : Hid (w3.heap.size = w2.heap.size + 1) := hide (by rw [hw3]; simp)
    clear hw3 hb3 k0 k1
    go_wp2_with fail
    obtain ⟨pz, hpz⟩ : ∃ pz, w2.heap.size = pz := ⟨_, rfl⟩
    rw [hpz] at HP3 HS2 HS3 ⊢
    clear hpz
    have h0 : ∀ L, w3.heap.size + 2 ≤ L → LaI w w3.heap.size q (w.heap.size + 1) 2 29 f s 0 L (fun b => b < w.heap.size ∨ b = pz) w3 := fun L hL =>
      ⟨HB3.out, ⟨A, B, c, d, by rw [show siz f s (0 - 1) = m from (siz_zero f s).trans HFL.out]; exact HQ3.out, .inl rfl⟩, fun h => by have hs1 := HS2.out; have hs2 := HS3.out; rcases h with h | h <;> omega, by have hs1 := HS2.out; have hs2 := HS3.out; omega, HR3.out, by have hs1 := HS2.out; have hs2 := HS3.out; omega⟩
    have HQZ := hide hq0
    clear hq0
    refine (wpIn_wide (n := 5)).1 ?_
    refine wpIn_iterU (gf := 93) (lb := #[.pointer (some ⟨pz, 0, none⟩)]) rfl (enters_of Try.func93 (by kernel_rfl) rfl) (K := serK f s) (T := SerT f s 2 w.heap.size) (U0 := fun b => b < w.heap.size ∨ b = pz) (serI_any m c f A B d s pz _ w w3 HZ.out HG.out HB3.out (fun b hb => .inl hb) (fun b hb => by have hs1 := HS2.out; have hs2 := HS3.out; have := HQZ.out; rcases hb with h | h <;> omega) HP3.out 5) (fun k L v U W h => by exact h.size) (fun k L v U W W' h hk => h.later hk) (fun b hb => by have hs1 := HS2.out; have hs2 := HS3.out; have := HQZ.out; rcases hb with h | h <;> omega)
      (LaI w w3.heap.size q (w.heap.size + 1) 2 29 f s) (fun _ _ _ _ _ => False) (fun k L U U' W W' hL h hs hu => h.step (by have hs1 := HS2.out; have hs2 := HS3.out; have := HQZ.out; omega) hs hu) (fun k L U W b o o' hb hb2 _ ho hc h => h.put o' hb hb2 (by have hs1 := HS2.out; have hs2 := HS3.out; have := HQZ.out; omega) (by have hs1 := HS2.out; have hs2 := HS3.out; omega) (by have hs1 := HS2.out; have hs2 := HS3.out; have := HQZ.out; omega)) (fun _ _ _ _ _ _ _ _ _ _ _ _ h => h)
      (fun L hL => h0 L (by omega))
      (fun k v a' W => ∃ A2 c2 B2 d2 u9 R, v = #[.agg #[.slice A2 (siz f s k) c2, .slice B2 (siz f s k) d2], u9] ∧ w3.heap.size + 2 ≤ R ∧ Blk W R 29 [.slice A2 (siz f s k) c2, .slice B2 (siz f s k) d2] ∧ a' = { tmps := #[.agg #[.slice A m c, .slice B m d], .pointer (some ⟨w.heap.size, 0, none⟩), .pointer (some ⟨w.heap.size + 1, 0, none⟩), .int .i64 0, .pointer (some ⟨q, 0, none⟩), .pointer (some ⟨R, 0, none⟩), .agg #[.slice A m c, .slice B m d], .bool true, .bool false, undef, .agg #[.slice A m c, .slice B m d], .agg #[.slice A m c, .slice B m d], .func (.func 93) #[] #[.pointer (some ⟨pz, 0, none⟩)], .agg #[.slice A2 (siz f s k) c2, .slice B2 (siz f s k) d2], u9, undef, undef, undef, undef, undef, undef], defers := [] })
      (fun k v a' W b o o' hb ho hc h => ?hap) ?assign ?body ?done ?stop
    case hap =>
      obtain ⟨A2, c2, B2, d2, u9, R, e1, e2, e3, e4⟩ := h
      refine ⟨A2, c2, B2, d2, u9, R, e1, e2, (World.putObj_heap_other (fun e => ?_)).trans e3, e4⟩
      subst e
      rw [show W.heap[R]? = _ from e3] at ho
      injection ho with ho
      subst ho
      cases hc
    case assign =>
      intro l k L v U W K' hT hsz hK
      obtain ⟨A2, c2, B2, d2, g2, cl, rfl, _, _, _, _⟩ := hT
      gi_wp2
      exact hK _ _ ((Below.refl _ _).alloc (Nat.le_refl _) _) ⟨A2, c2, B2, d2, _, W.heap.size, rfl, hsz, Blk.new _ _ _, rfl⟩
    case body =>
      rintro l k L v U a' W hk hL hUU hI hT ⟨A2, c2, B2, d2, u9, R, rfl, hR, hbR, rfl⟩ hsz
      obtain ⟨A9, c9, B9, d9, g9, cl9, e9, _, hd9, _, _⟩ := hT
      injection e9 with e9
      injection e9 with e9 _
      injection e9 with e9
      injection e9 with e9
      injection e9 with e9 e10
      injection e10 with e10 _
      injection e9 with e9 _ _
      injection e10 with e10 _ _
      subst e9
      subst e10
      obtain ⟨A0, B0, c0, d0, hq1, _⟩ := hI.ex
      have HII := hide hI
      have HDD := hide hd9
      have HUU := hide hUU
      have HQW := hide hq1
      have HBR := hide hbR
      have HSZ := hide hsz
      have r0 := hbR.cell 0 _ rfl
      have r1 := hbR.cell 1 _ rfl
      have q0 := hq1.cell 0 _ rfl
      have q1 := hq1.cell 1 _ rfl
      have qf0 := hq1.frozen 0
      have qf1 := hq1.frozen 1
      clear hI hd9 hUU hq1 hbR hsz hk
      gi_wp2
      exact LaI.next HII.out (by have := HQZ.out; omega) (by have hs1 := HS2.out; have hs2 := HS3.out; omega) (by have := HQZ.out; omega) HSZ.out HUU.out HDD.out (Below.refl _ _) rfl
    case done =>
      rintro L U W hI hD
      obtain ⟨A2, B2, c2, d2, hq1, hor⟩ := hI.ex
      rw [Nat.add_sub_cancel] at hq1 hor
      rcases hor with hor | ⟨g2, hd2⟩
      · omega
      have hnow := hd2.now
      have hzk := ser_arg HG.out hnow.1 hnow.2.1
      rw [HKZ.out, HZF.out, HZG.out] at hzk
      rw [HKZ.out] at hq1
      have HZK := hide hzk
      have HQb := hide hq1
      have HRb := hide hI.rb
      have HBc := hide hI.below
      have HDD := hide hD
      obtain ⟨Wd, hWd⟩ : ∃ Wd, W = Wd := ⟨_, rfl⟩
      rw [hWd] at HZK HQb HRb HBc HDD ⊢
      have HQc := hide (Below.refl Wd.heap.size Wd)
      have k0 := HQb.out.cell 0 _ rfl
      have k1 := HQb.out.cell 1 _ rfl
      have r0 := HRb.out.cell 0 _ rfl
      have r1 := HRb.out.cell 1 _ rfl
      have r2 := HRb.out.frozen 0
      have r3 := HRb.out.frozen 1
      have HW0 := hide (HRb.out.lt)
      have HDS := hide (Array.getElem?_eq_some_iff.1 HDD.out).1
      have gq : w.heap.size + 1 ≠ q := by have := HQZ.out; omega
      have gq' := gq.symm
      clear hI hq1 hd2 hnow hzk hD hWd
      gi_wp2
      go_wp2_with fail
      go_region_held3 (fun w' => w'.cell? ⟨q, 0, none⟩ = some (.slice A2 kw c2) ∧ w'.cell? ⟨q, 1, none⟩ = some (.slice B2 kw d2)) (first | exact ⟨k0, k1⟩ | go_keep) (first | (go_at_call 58; go_must (refine calls_gen fun wc hwc => ?_; (first | have hbx := drew_below hwc | have hbx := eq_below hwc); replace HBc := hide (HBc.out.trans (hbx.mono HBc.out.size)); replace HQc := hide (HQc.out.trans (hbx.mono HQc.out.size)); replace HQb := hide (HQb.out.later hbx); replace HRb := hide (HRb.out.later hbx); replace HZK := hide (HZK.out.later hbx); clear hwc hbx; have HLc := hide HQc.out.size; refine (size_any _ kw _ _ _ _ _ (by omega)).mono ?_; rintro e wd ⟨rfl, hbd⟩; skip; replace HBc := hide (HBc.out.trans (hbd.mono HBc.out.size)); replace HQc := hide (HQc.out.trans (hbd.mono HQc.out.size)); replace HQb := hide (HQb.out.later hbd); replace HRb := hide (HRb.out.later hbd); replace HZK := hide (HZK.out.later hbd); clear hbd; have k0 := HQb.out.cell 0 _ rfl; have k1 := HQb.out.cell 1 _ rfl; have r0 := HRb.out.cell 0 _ rfl; have r1 := HRb.out.cell 1 _ rfl; have r2 := HRb.out.frozen 0; have r3 := HRb.out.frozen 1)) | (go_at_call 60; go_must (refine calls_gen fun wc hwc => ?_; (first | have hbx := drew_below hwc | have hbx := eq_below hwc); replace HBc := hide (HBc.out.trans (hbx.mono HBc.out.size)); replace HQc := hide (HQc.out.trans (hbx.mono HQc.out.size)); replace HQb := hide (HQb.out.later hbx); replace HRb := hide (HRb.out.later hbx); replace HZK := hide (HZK.out.later hbx); clear hwc hbx; have HLc := hide HQc.out.size; refine (pmp_any 61 (.agg #[.slice A2 kw c2, .slice B2 kw d2]) kw (fun x y => ((ap zf x y : Nat) : Int)) (fun x y => ((ap zg x y : Nat) : Int)) _ (enters_of Try.func61 (by kernel_rfl) rfl) (by omega) (by omega) (fun W x y hx hy hbe => lead_any _ _ _ zf _ _ _ zg x y W (HZK.out.later hbe) HPM.out hx hy)).mono ?_; rintro e wd ⟨A3, c3, B3, d3, rfl, hbd, hob⟩; rw [HGF.out, HGG.out] at hob; have HO3 := hide (hob.mono (lo' := Wd.heap.size) HLc.out (Nat.le_refl _)); clear hob; replace HBc := hide (HBc.out.trans (hbd.mono HBc.out.size)); replace HQc := hide (HQc.out.trans (hbd.mono HQc.out.size)); replace HQb := hide (HQb.out.later hbd); replace HRb := hide (HRb.out.later hbd); replace HZK := hide (HZK.out.later hbd); clear hbd; have k0 := HQb.out.cell 0 _ rfl; have k1 := HQb.out.cell 1 _ rfl; have r0 := HRb.out.cell 0 _ rfl; have r1 := HRb.out.cell 1 _ rfl; have r2 := HRb.out.frozen 0; have r3 := HRb.out.frozen 1)))
      all_goals (
        go_wp2_with fail
        refine bpm_gen fun wf hwf => ?_
        obtain ⟨hdd, q0, q1, hbf, hof⟩ := zendM (w2 := Wd) (o := .deferred none) (by first | exact hwf | (rw [hwf]; rfl)) HRb.out (by omega) HW0.out HBc.out (by have := HW0.out; omega) HO3.out HQc.out HDD.out (by have hs1 := HS2.out; have hs2 := HS3.out; have := HQZ.out; omega) (by have hs1 := HS2.out; have hs2 := HS3.out; have := HQZ.out; omega)
        clear hwf k0 k1 r0 r1 r2 r3
        refine ⟨by simp, .inl ⟨_, _, rfl, run_takeDeferred hdd, ?_⟩⟩
        exact ⟨.tuple #[.agg #[.slice A3 kw c3, .slice B3 kw d3], .int .i64 0], by simp [results, Try.results32, go_sem, q0, q1], _, _, _, _, rfl, hbf, hof⟩)
    case stop =>
      rintro c k L U W _ h _
      exact h.elim
  · have HP := hide hp
    obtain rfl : kz = 0 := by simpa using hk.fl.symm
    obtain rfl : kw = 0 := by simpa using hk.sl.symm
    clear hp hz hk
    go_enter Try.func32, Try.ntmps32
    go_wp2_with fail
    refine calls_gen fun w0 hw0 => ?_
    have hb0 : Below w.heap.size w w0 := by rw [hw0]; exact ((Below.refl _ _).alloc (Nat.le_refl _) _).alloc (by simp) _
    have HB0 := hide hb0
    have HR0 : Hid (Blk w0 (w.heap.size + 1) 29 [.slice none 0 0, .slice none 0 0]) := hide (by rw [hw0]; have h := Blk.new (w.alloc (Obj.cells #[Value.slice A n c, Value.slice B m d] 29)) 29 [.slice none 0 0, .slice none 0 0]; simpa using h)
    clear hw0 hb0
    refine (nd7I _ _ _ f _ _ _ s false _ (HZ.out.later HB0.out) (by simp [HP.out])).mono ?_
    rintro e w1 ⟨rfl, hb1⟩
    have HB1 := hide (HB0.out.trans (hb1.mono HB0.out.size))
    have HR1 := hide (HR0.out.later hb1)
    have k2 := HR1.out.cell 0 _ rfl
    have k3 := HR1.out.cell 1 _ rfl
    have k4 := HR1.out.frozen 0
    have k5 := HR1.out.frozen 1
    clear hb1
    go_wp2_with fail
    refine bp_gen fun wf hwf => ?_
    obtain ⟨q0, q1, hbf, hof⟩ := zend (ts := 26) (t := 2) (w2 := w1) hwf HR1.out (by omega) HR1.out.lt HB1.out HB1.out.size (ObjZ.empty (Nat.le_refl _))
    clear hwf k2 k3 k4 k5
    exact bodyPost_ret (v := .tuple #[.agg #[.slice none 0 0, .slice none 0 0], .int .i64 1]) (by simp [results, Try.results32, go_sem, q0, q1]) rfl ⟨_, _, _, _, rfl, hbf, hof⟩
end Go.Proofs.Ytgmloaemnbnbgaa
