import Derived.Test.YtpnlmmilnglmkaaZl
import Derived.Test.YtpnlmmilnglmkaaProg
import Derived.Test.YtpnlmmilnglmkaaZb
import Derived.Test.YtpnlmmilnglmkaaZc
import Derived.Test.YtpnlmmilnglmkaaZh
import Derived.Test.YtpnlmmilnglmkaaZj
import Derived.Test.YtpnlmmilnglmkaaZk
namespace Go.Proofs.Ytpnlmmilnglmkaa
open Go Go.RowKit
def kinkL (f : List (List Int)) : List Int := (List.range f.length).map fun (x : Nat) => ((ap f x x : Nat) : Int)
theorem kinkL_length (f : List (List Int)) : (kinkL f).length = f.length := by simp [kinkL]
theorem kinkL_getD (f : List (List Int)) (k : Nat) (h : k < f.length) : (kinkL f).getD k 0 = ((ap f k k : Nat) : Int) := by simp [kinkL, h]
def KinkRes (f : List (List Int)) (zs : List Int) (code : Int) : Prop := (Rck f ∧ zs = kinkL f ∧ code = 0) ∨ (¬ Rck f ∧ zs = [] ∧ code = 1)
theorem KinkRes.ex (f : List (List Int)) : ∃ zs code, KinkRes f zs code ∧ zs.length ≤ 1048576 := by
  by_cases h : Rck f
  · exact ⟨_, _, .inl ⟨h, rfl, rfl⟩, by rw [kinkL_length]; have := h.tbl.2.1; omega⟩
  · exact ⟨_, _, .inr ⟨h, rfl, rfl⟩, by simp⟩
theorem kq_take (zs : List Int) (k : Nat) (y : Int) (h : k < zs.length) (hy : zs.getD k 0 = y) : ints (zs.take k) ++ [.int .i64 y] = ints (zs.take (k + 1)) := by
  rw [List.take_succ_eq_append_getElem h]
  have : zs[k] = y := by simpa [h] using hy
  simp [ints, this]
theorem kq_empty (w : World) (t : TypeId) : (w.alloc (.cells #[] t)).ownsRow w.heap.size t 1 (.slice (some ⟨w.heap.size, 0, none⟩) 0 0) 0 [] :=
  ⟨by simp, .inr ⟨w.heap.size, 0, #[], rfl, Nat.le_refl _, heap_alloc_new _ _, Nat.le_refl _, by unfold maxLen; omega, by simp, by simp⟩⟩
theorem kq_new {w : World} {v : Value} {t : TypeId} : ∀ j u, [v][j]? = some u → (w.alloc (.cells #[v] t)).cell? ((⟨w.heap.size, 0, none⟩ : Addr).add j) = some u := by
  intro j u hj
  match j, hj with
  | 0, hj => simp at hj; subst hj; simp [Addr.add, World.cell?_alloc_new]
theorem kqInfo : (Try.prog.info? 2).map (fun i => (i.zero, i.size, i.bytes)) = some (some (.int .i64 0), 1, 8) := by kernel_rfl
/-- The last lines of a row that was filled from the front. -/
theorem kq_fill (zs : List Int) (n k : Nat) (hz : zs.length = n) (hk : k < n) : ((zs.take k ++ List.replicate (n - k) 0).set k (zs.getD k 0)) = zs.take (k + 1) ++ List.replicate (n - (k + 1)) 0 := by
  apply List.ext_getElem
  · simp; omega
  · intro i h1 h2
    simp only [List.getElem_set, List.getElem_append, List.length_take, List.getElem_take, List.getElem_replicate]
    by_cases e : k = i
    · subst e
      rw [if_pos rfl, dif_pos (by omega)]
      simp [show k < zs.length by omega]
    · rw [if_neg e]
      by_cases e2 : i < k
      · rw [dif_pos (by omega), dif_pos (by omega)]
      · rw [dif_neg (by omega), dif_neg (by omega)]
end Go.Proofs.Ytpnlmmilnglmkaa
namespace Go.Proofs.Ytpnlmmilnglmkaa
open Go Go.RowKit
/-- Doing each row twice leads each element to itself. -/
def IvF (f : List (List Int)) : Prop := ∀ x y, x < f.length → y < f.length → ap f x (ap f x y) = y
def IvRes (f : List (List Int)) : Bool → Int → Prop := BRes (Rck f) (IvF f)
theorem IvRes.ex (f : List (List Int)) : ∃ r code, IvRes f r code := BRes.ex _ _
theorem prm_at {p : List Int} (h : Prm p) {y : Nat} (hy : y < p.length) : 0 ≤ p.getD y 0 ∧ p.getD y 0 < (p.length : Int) := by
  have hm : p.getD y 0 ∈ p := by simp [hy]
  exact h.2.2.1 _ hm
theorem prm_inj {p : List Int} (h : Prm p) {y z : Nat} (hy : y < p.length) (hz : z < p.length) (e : p.getD y 0 = p.getD z 0) : y = z := by
  have hn := h.2.2.2
  have e1 : p[y] = p[z] := by simpa [hy, hz] using e
  exact (List.getElem_inj hn).1 e1
theorem backTo_hit {p : List Int} (h : Prm p) : ∀ k, k ≤ p.length → ∀ y, y < k → (backTo p k).getD (p.getD y 0).toNat 0 = (y : Int) := by
  intro k
  induction k with
  | zero => intro _ y hy; omega
  | succ k ih =>
    intro hk y hy
    have hyl : y < p.length := by omega
    have a := prm_at h hyl
    have b := prm_at h (show k < p.length by omega)
    unfold backTo
    simp only [List.getD_eq_getElem?_getD] at *
    by_cases e : y = k
    · subst e
      rw [List.getElem?_set_self (by rw [backTo_length]; omega)]
      rfl
    · rw [List.getElem?_set_ne]
      · exact ih (by omega) y (by omega)
      · intro e2
        apply e
        apply prm_inj h hyl (by omega)
        simp only [List.getD_eq_getElem?_getD]
        omega
theorem back_iff {p : List Int} (h : Prm p) : p = backTo p p.length ↔ ∀ y, y < p.length → p.getD (p.getD y 0).toNat 0 = (y : Int) := by
  constructor
  · intro e y hy
    have h1 := backTo_hit h p.length (Nat.le_refl _) y hy
    rw [← e] at h1
    exact h1
  · intro hall
    apply List.ext_getElem
    · rw [backTo_length]
    · intro z h1 h2
      have a := prm_at h h1
      have b := hall z h1
      have c := backTo_hit h p.length (Nat.le_refl _) (p.getD z 0).toNat (by omega)
      rw [b] at c
      have d : ((z : Int)).toNat = z := by omega
      rw [d] at c
      have e1 : p.getD z 0 = p[z] := by simp [h1]
      have e2 : (backTo p p.length).getD z 0 = (backTo p p.length)[z] := by simp [h2]
      rw [← e1, ← e2, c]
      omega
theorem iv_row {f : List (List Int)} (ht : Tbl f) (hp : AllPrm f) {n x : Nat} (hn : f.length = n) (hx : x < n) : f.getD x [] = backTo (f.getD x []) n ↔ ∀ y, y < n → ap f x (ap f x y) = y := by
  have hl := ht.row_len hn hx
  have h := back_iff (hp x (by omega))
  rw [hl] at h
  rw [h]
  have key : ∀ y, y < n → ((f.getD x []).getD ((f.getD x []).getD y 0).toNat 0 = (y : Int) ↔ ap f x (ap f x y) = y) := by
    intro y hy
    have e1 := ht.ap_eq hn hx hy
    have hlt := ht.ap_lt hn hx hy
    have e2 := ht.ap_eq hn hx hlt
    rw [e1]
    have e3 : ((ap f x y : Nat) : Int).toNat = ap f x y := by omega
    rw [e3, e2]
    omega
  exact ⟨fun h y hy => (key y hy).1 (h y hy), fun h y hy => (key y hy).2 (h y hy)⟩
end Go.Proofs.Ytpnlmmilnglmkaa
namespace Go.Proofs.Ytpnlmmilnglmkaa
open Go Go.RowKit
def rowsL (f : List (List Int)) (h : Nat → List Int) : List (List Int) := (List.range f.length).map h
theorem rowsL_length (f : List (List Int)) (h : Nat → List Int) : (rowsL f h).length = f.length := by simp [rowsL]
theorem rowsL_at (f : List (List Int)) (h : Nat → List Int) (i : Nat) (hi : i < f.length) : (rowsL f h).getD i [] = h i := by simp [rowsL, hi]
def dualL (f : List (List Int)) : List (List Int) := rowsL f (fun i => backTo (f.getD i []) f.length)
def DuRes (f zs : List (List Int)) (code : Int) : Prop := (Rck f ∧ zs = dualL f ∧ code = 0) ∨ (¬ Rck f ∧ zs = [] ∧ code = 1)
theorem DuRes.ex (f : List (List Int)) : ∃ zs code, DuRes f zs code ∧ zs.length ≤ 1048576 ∧ ∀ i, i < zs.length → (zs.getD i []).length ≤ 1048576 := by
  by_cases h : Rck f
  · have h12 := h.tbl.2.1
    refine ⟨_, _, .inl ⟨h, rfl, rfl⟩, ?_, fun i hi => ?_⟩
    · rw [dualL, rowsL_length]; omega
    · rw [dualL, rowsL_length] at hi
      rw [dualL, rowsL_at f _ i hi, backTo_length, h.tbl.rows i hi]
      omega
  · exact ⟨_, _, .inr ⟨h, rfl, rfl⟩, by simp, by simp⟩
end Go.Proofs.Ytpnlmmilnglmkaa
namespace Go.Proofs.Ytpnlmmilnglmkaa
open Go Go.RowKit
set_option maxHeartbeats 1000000

set_option maxRecDepth 100000 in
theorem tableOf_any (F : FuncId) (lb : Array Value) (n : Nat) (h : Nat → Nat → Int) (w : World) (eg : ∀ args w, (callFunc F args).run Try.prog w = .ok (.enter F args) w) (h0 : 1 ≤ n) (h12 : n ≤ 12) (hp : CellFn Try.prog F lb n h w) :
    Calls Try.prog 109 #[.int .i64 n, .func (.func F) #[] lb] w fun e w' => ∃ A c, e = .returned (.slice A n c) ∧ Below w.heap.size w w' ∧ Obj2 37 2 w.heap.size w'.heap.size w' A (grid n h) := by
  have HPF := hide hp
  clear hp
  obtain ⟨N, hN⟩ : ∃ N, n * n = N := ⟨_, rfl⟩
  have hN144 : N ≤ 144 := by rw [← hN]; exact sq_le n h12
  have HN := hide hN
  clear hN
  go_enter Try.func109, Try.ntmps109
  go_wp2_with fail
  refine calls_gen fun w0 hw0 => ?_
  have HB0 : Hid (Below w.heap.size w w0) := hide (by rw [hw0]; first | exact Below.refl _ _ | exact (Below.refl _ _).drew)
  have Z0 : Hid (w0.heap.size = w.heap.size) := hide (by first | (rw [hw0]; done) | (rw [hw0]; simp))
  clear hw0
  refine (newTable_any n _ (by omega)).mono ?_
  rintro e w1 ⟨rfl, hb1, ht1, hs1⟩
  have HB1 := hide (HB0.out.trans (hb1.mono HB0.out.size))
  have HT1 := hide ht1
  have Z1 := hide hs1
  clear hb1 ht1 hs1
  go_wp2_with fail
  refine (pairsOf_any n N _ h0 h12 HN.out).mono ?_
  rintro e w4 ⟨g, rfl, hb4, hg4, hpa⟩
  have HB4 := hide (HB1.out.trans (hb4.mono HB1.out.size))
  have HT4 := hide (HT1.out.later hb4)
  have HPA4 := hide hpa
  have hs4 := hb4.size
  clear hb4 hpa
  obtain ⟨T, hT⟩ : ∃ T, w0.heap.size = T := ⟨_, rfl⟩
  have ZT : Hid (T = w.heap.size ∧ T + 1 + n ≤ w4.heap.size ∧ T + 1 + n ≤ g) := hide (by have := Z0.out; have := Z1.out; omega)
  rw [hT] at HT4
  rw [hT]
  go_wp2_with fail
  go_loopw [13] (fun i wr => ∃ k : Nat, k ≤ N ∧ i = .int .i64 k ∧ Below w.heap.size w wr ∧ w4.heap.size ≤ wr.heap.size ∧ PairsAt wr g n ∧ TabF 37 2 wr T (fun i => T + 1 + i) n (rfTo h n k)) (fun i _ => N - (intOf i).toNat)
  case atStart => exact ⟨0, Nat.zero_le _, rfl, HB4.out, Nat.le_refl _, HPA4.out, HT4.out.congr (fun a b _ _ => by simp [rfTo])⟩
  case round =>
    obtain ⟨k, hk, rfl, hbe, hsz, hpa, ht1⟩ := hrel
    have HB := hide hbe
    have HPA := hide hpa
    have HT := hide ht1
    clear hbe hpa ht1
    by_cases hlt : k < N
    · have hkz : (k : Int) < N := by omega
      obtain ⟨p0, p1⟩ := HPA.out.2 k (by rw [HN.out]; exact hlt)
      have hxn : k / n < n := div_lt_sq (by rw [HN.out]; exact hlt)
      have hyn : k % n < n := mod_lt_sq (by rw [HN.out]; exact hlt)
      obtain ⟨x, hx⟩ : ∃ x, k / n = x := ⟨_, rfl⟩
      obtain ⟨y, hy⟩ : ∃ y, k % n = y := ⟨_, rfl⟩
      rw [hx] at p0 hxn
      rw [hy] at p1 hyn
      have HX := hide hx
      have HY := hide hy
      have hxz : (x : Int) < n := by omega
      have hyz : (y : Int) < n := by omega
      clear hx hy
      go_wp2_with fail
      refine wp_gen fun w5 hw5 => ?_
      obtain ⟨P, hPe⟩ : ∃ P, wr.heap.size = P := ⟨_, rfl⟩
      have hb5 : Below wr.heap.size wr w5 := by rw [hw5]; exact (Below.refl _ _).alloc (Nat.le_refl _) _
      have HPP : Hid (w4.heap.size ≤ P) := hide (by rw [← hPe]; exact hsz)
      have HBc := hide (HB.out.trans (hb5.mono HB.out.size))
      have HAc := hide (HPA.out.later hb5)
      have HTc := hide (HT.out.later hb5)
      have HPc : Hid (Blk w5 P 97 [.int .i64 x, .int .i64 y]) := hide (by rw [hw5, ← hPe]; exact Blk.new _ _ _)
      have hszc : w4.heap.size ≤ w5.heap.size := by have := hb5.size; omega
      rw [hPe]
      clear hw5 hb5 p0 p1 hPe
      obtain ⟨C1, t1⟩ := HTc.out.top
      obtain ⟨cx, hcx⟩ : ∃ a, C1 x = a := ⟨_, rfl⟩
      obtain ⟨X, hX⟩ : ∃ a, T + 1 + x = a := ⟨_, rfl⟩
      have HXX := hide hX
      have HTOP : Hid (T < w5.heap.size ∧ w5.cell? ⟨T, x, none⟩ = some (.slice (some ⟨X, 0, none⟩) n cx)) := hide ⟨t1.lt, by rw [← hX, ← hcx]; exact t1.cell hxn⟩
      clear t1 hcx hX
      have k1 := HPc.out.cell 0 _ rfl
      have k2 := HPc.out.cell 1 _ rfl
      have k3 := HTOP.out.2
      have ne1 : P ≠ X := by have := HPP.out; have := ZT.out; have := HXX.out; omega
      have ne2 : T ≠ X := by have := HXX.out; omega
      have ne3 := ne1.symm
      have ne4 := ne2.symm
      go_region_held3 (fun w' => w'.cell? ⟨P, 0, none⟩ = some (.int .i64 x) ∧ w'.cell? ⟨P, 1, none⟩ = some (.int .i64 y) ∧ w'.cell? ⟨T, x, none⟩ = some (.slice (some ⟨X, 0, none⟩) n cx)) (first | exact ⟨k1, k2, k3⟩ | go_keep) (first | (go_at_fn F; go_must (refine calls_gen fun wc hwc => ?_; have hbx : Below w5.heap.size w5 wc := (by rw [hwc]; first | exact Below.refl _ _ | exact (Below.refl _ _).drew); replace HBc := hide (HBc.out.trans (hbx.mono HBc.out.size)); replace HAc := hide (HAc.out.later hbx); replace HTc := hide (HTc.out.later hbx); replace HPc := hide (HPc.out.later hbx); replace hszc : w4.heap.size ≤ wc.heap.size := (by have := hbx.size; omega); replace HTOP : Hid (T < wc.heap.size ∧ wc.cell? ⟨T, x, none⟩ = some (.slice (some ⟨X, 0, none⟩) n cx)) := hide ⟨by have := hbx.size; have := HTOP.out.1; omega, (hbx.cell (p := ⟨T, x, none⟩) HTOP.out.1).trans HTOP.out.2⟩; clear hwc hbx; refine (HPF.out wc x y hxn hyn HBc.out).mono ?_; rintro e wd ⟨rfl, hbd⟩; replace HBc := hide (HBc.out.trans (hbd.mono HBc.out.size)); replace HAc := hide (HAc.out.later hbd); replace HTc := hide (HTc.out.later hbd); replace HPc := hide (HPc.out.later hbd); replace hszc : w4.heap.size ≤ wd.heap.size := (by have := hbd.size; omega); replace HTOP : Hid (T < wd.heap.size ∧ wd.cell? ⟨T, x, none⟩ = some (.slice (some ⟨X, 0, none⟩) n cx)) := hide ⟨by have := hbd.size; have := HTOP.out.1; omega, (hbd.cell (p := ⟨T, x, none⟩) HTOP.out.1).trans HTOP.out.2⟩; clear hbd; have k1 := HPc.out.cell 0 _ rfl; have k2 := HPc.out.cell 1 _ rfl; have k3 := HTOP.out.2; have k4 : wd.cell? ⟨X, y, none⟩ = some (.int .i64 (rfTo h n k x y)) := (by rw [← HXX.out]; exact (HTc.out.row x hxn).cell hyn); have k5 : wd.frozen? ⟨X, y, none⟩ = false := (by rw [← HXX.out]; exact (HTc.out.row x hxn).frozen y))))
      all_goals go_wp2_with fail
      all_goals go_roundw
      all_goals first
        | (simp [intOf]; omega)
        | (refine ⟨k + 1, by omega, by go_num, HBc.out.setCell (p := ⟨X, y, none⟩) (by show w.heap.size ≤ X; have := ZT.out; have := HXX.out; omega) _, by simpa [World.setCell] using hszc, HAc.out.away (p := ⟨X, y, none⟩) (by show g ≠ X; have := ZT.out; have := HXX.out; omega) _, ?_⟩
           have h1 : TabF 37 2 (wd.setCell ⟨T + 1 + x, y, none⟩ (.int .i64 (h x y))) T (fun i => T + 1 + i) n _ := HTc.out.set x y (h x y) hxn
           rw [HXX.out] at h1
           exact h1.congr (rfTo_upd h n k x y HX.out HY.out hyn))
    · have hkn : k = N := by omega
      subst hkn
      go_wp2_with fail
      have z0 := ZT.out
      have HF1 : TabF 37 2 wr T (fun i => T + 1 + i) n h := HT.out.congr (fun a b ha hb => by unfold rfTo; rw [if_pos (by rw [← HN.out]; exact pair_lt n a b ha hb)])
      go_ret
      exact ⟨_, _, rfl, HB.out, HF1.obj (by omega) (by omega) (fun i hi => by omega)⟩
end Go.Proofs.Ytpnlmmilnglmkaa
namespace Go.Proofs.Ytpnlmmilnglmkaa
open Go Go.RowKit
set_option maxHeartbeats 1000000

/-- Three elements as a value. -/
def tv (t : Nat × Nat × Nat) : Value := .agg #[.int .i64 t.1, .int .i64 t.2.1, .int .i64 t.2.2]

set_option maxRecDepth 100000 in
theorem leadAt0_any (A : Option Addr) (n c : Nat) (f : List (List Int)) (B : Option Addr) (m d : Nat) (s : List (List Int)) (x y z : Nat) (w : World) (hz : ZArg 1048576 w A n f B m s) (hp : PMap f s) (hx : x < n) (hy : y < n) (_hz' : z < n) :
    Calls Try.prog 146 #[.agg #[.slice A n c, .slice B m d], .int .i64 0, tv (x, y, z)] w fun e w' => e = .returned (tv (at0 f s (x, y, z))) ∧ Below w.heap.size w w' := by
  have HZ := hide hz
  have HP := hide hp
  have h12 := hz.sz.nb
  unfold at0 tv
  show Calls Try.prog 146 #[.agg #[.slice A n c, .slice B m d], .int .i64 0, .agg #[.int .i64 x, .int .i64 y, .int .i64 z]] w fun e w' => e = .returned (.agg #[.int .i64 (ap f x y : Nat), .int .i64 (ap s x y : Nat), .int .i64 (z : Nat)]) ∧ Below w.heap.size w w'
  obtain ⟨u, hu⟩ : ∃ u, ap f x y = u := ⟨_, rfl⟩
  obtain ⟨v, hv⟩ : ∃ v, ap s x y = v := ⟨_, rfl⟩
  rw [hu, hv]
  have HU := hide hu
  have HV := hide hv
  clear hz hp hu hv
  have hwp1 : IntKind.i64.wrap 1 = 1 := IntWalk.i64_in _ (by omega)
  have hwp2 : IntKind.i64.wrap 2 = 2 := IntWalk.i64_in _ (by omega)
  go_enter Try.func146, Try.ntmps146
  go_wp2_with fail
  refine wp_gen fun w1 hw1 => ?_
  have hb1 : Below w.heap.size w w1 := by rw [hw1]; exact (((Below.refl _ _).alloc (Nat.le_refl _) _).alloc (by simp) _).alloc (by simp; omega) _
  have HS : Hid (Blk w1 w.heap.size 30 [.slice A n c, .slice B m d]) := hide (by rw [hw1]; exact ((Blk.new _ _ _).alloc _).alloc _)
  have HL : Hid (Blk w1 (w.heap.size + 1) 121 [.int .i64 x, .int .i64 y, .int .i64 z]) := hide (by rw [hw1]; have h := (Blk.new (w.alloc (Obj.cells #[Value.slice A n c, Value.slice B m d] 30)) 121 [.int .i64 x, .int .i64 y, .int .i64 z]).alloc (Obj.cells #[Value.int IntKind.i64 0, Value.int IntKind.i64 0, Value.int IntKind.i64 0] 121); simpa using h)
  have HO : Hid (Blk w1 (w.heap.size + 1 + 1) 121 [.int .i64 0, .int .i64 0, .int .i64 0]) := hide (by rw [hw1]; have h := Blk.new ((w.alloc (Obj.cells #[Value.slice A n c, Value.slice B m d] 30)).alloc (Obj.cells #[Value.int IntKind.i64 x, Value.int IntKind.i64 y, Value.int IntKind.i64 z] 121)) 121 [.int .i64 0, .int .i64 0, .int .i64 0]; simpa using h)
  have HBc := hide hb1
  replace HZ := hide (HZ.out.later hb1)
  have Z1 : Hid (w1.heap.size = w.heap.size + 1 + 1 + 1) := hide (by rw [hw1]; simp)
  have j1 : w1.heap.size ≠ w.heap.size := by have := Z1.out; omega
  have j2 : w1.heap.size ≠ w.heap.size + 1 := by have := Z1.out; omega
  have j3 := j1.symm
  have j4 := j2.symm
  have hz1 : w.heap.size + 1 < w1.heap.size := by have := Z1.out; omega
  clear hw1 hb1
  have k0 := HS.out.cell 0 _ rfl
  have k1 := HS.out.cell 1 _ rfl
  have k2 := HL.out.cell 0 _ rfl
  have k3 := HL.out.cell 1 _ rfl
  have k4 := HL.out.cell 2 _ rfl
  go_region_held3 (fun w' => w'.cell? ⟨w.heap.size, 0, none⟩ = some (.slice A n c) ∧ w'.cell? ⟨w.heap.size, 1, none⟩ = some (.slice B m d) ∧ w'.cell? ⟨w.heap.size + 1, 0, none⟩ = some (.int .i64 x) ∧ w'.cell? ⟨w.heap.size + 1, 1, none⟩ = some (.int .i64 y) ∧ w'.cell? ⟨w.heap.size + 1, 2, none⟩ = some (.int .i64 z)) (first | exact ⟨k0, k1, k2, k3, k4⟩ | go_keep) (first | (go_at_call 69; go_must (refine calls_gen fun wc hwc => ?_; (first | (have hbx := al_drew_below hwc; have HPB : Hid (Blk wc w1.heap.size 97 [.int .i64 0, .int .i64 0]) := hide (by rw [hwc]; exact Blk.new _ _ _)) | (have hbx := al_below hwc; have HPB : Hid (Blk wc w1.heap.size 97 [.int .i64 0, .int .i64 0]) := hide (by rw [hwc]; exact Blk.new _ _ _)) | (have hbx := drew_below hwc; have HPB : Hid True := hide trivial) | (have hbx := eq_below hwc; have HPB : Hid True := hide trivial)); have hbx0 := hide hbx.size; replace HBc := hide (HBc.out.trans (hbx.mono HBc.out.size)); replace HZ := hide (HZ.out.later hbx); replace HS := hide (HS.out.later hbx); replace HL := hide (HL.out.later hbx); replace HO := hide (HO.out.later hbx); clear hwc hbx; refine (lead_any _ _ _ f _ _ _ s x y _ HZ.out HP.out hx hy).mono ?_; rintro e wd ⟨rfl, hbd⟩; replace HBc := hide (HBc.out.trans (hbd.mono HBc.out.size)); replace HZ := hide (HZ.out.later hbd); replace HS := hide (HS.out.later hbd); replace HL := hide (HL.out.later hbd); replace HO := hide (HO.out.later hbd); (first | (replace HPB := hide (HPB.out.later hbd); have k5 := HPB.out.cell 0 _ rfl; have k6 := HPB.out.cell 1 _ rfl; have k7 := HPB.out.frozen 0; have k8 := HPB.out.frozen 1) | skip); have hsd := hbd.size; have hsx := hbx0.out; have g1 : wd.heap.size ≠ w.heap.size := (by omega); have g2 : wd.heap.size ≠ w.heap.size + 1 := (by omega); have g3 := g1.symm; have g4 := g2.symm; clear hsd hsx; clear hbd; have k0 := HS.out.cell 0 _ rfl; have k1 := HS.out.cell 1 _ rfl; have k2 := HL.out.cell 0 _ rfl; have k3 := HL.out.cell 1 _ rfl; have k4 := HL.out.cell 2 _ rfl; rw [HU.out, HV.out])))

  · clear k0 k1 k2 k3 k4
    refine ex_gen (Q := Exit.then _ _) fun w2 hw2 => ?_
    have hb2 : Below wd.heap.size wd w2 := by rw [hw2]; exact (Below.refl _ _).alloc (Nat.le_refl _) _
    have hsz := Z1.out
    have hsw : w.heap.size + 1 + 1 < wd.heap.size := by have := HO.out.lt; omega
    have HL2 : Hid (Blk w2 (w.heap.size + 1) 121 [.int .i64 x, .int .i64 y, .int .i64 z]) := hide (HL.out.later hb2)
    have HO2 : Hid (Blk w2 (w.heap.size + 1 + 1) 121 [.int .i64 0, .int .i64 0, .int .i64 0]) := hide (HO.out.later hb2)
    have HP2 : Hid (Blk w2 (wd.heap.size) 97 [.int .i64 u, .int .i64 v]) := hide (by rw [hw2]; exact Blk.new _ _ _)
    have HB2 : Hid (Below w.heap.size w w2) := hide (by rw [hw2]; exact HBc.out.alloc HBc.out.size _)
    clear hw2
    obtain ⟨P, hPe⟩ : ∃ P, wd.heap.size = P := ⟨_, rfl⟩
    rw [hPe] at HP2 hsw ⊢
    have l0 := HL2.out.cell 0 _ rfl
    have l1 := HL2.out.cell 1 _ rfl
    have l2 := HL2.out.cell 2 _ rfl
    have l3 := HL2.out.frozen 0
    have l4 := HL2.out.frozen 1
    have l5 := HL2.out.frozen 2
    have p0 := HP2.out.cell 0 _ rfl
    have p1 := HP2.out.cell 1 _ rfl
    have o0 := HO2.out.cell 0 _ rfl
    have o1 := HO2.out.cell 1 _ rfl
    have o2 := HO2.out.cell 2 _ rfl
    have o3 := HO2.out.frozen 0
    have o4 := HO2.out.frozen 1
    have o5 := HO2.out.frozen 2
    have n1 : P ≠ w.heap.size + 1 := by omega
    have n2 : P ≠ w.heap.size + 1 + 1 := by omega
    have n3 := n1.symm
    have n4 := n2.symm
    go_wp2_with fail
    obtain ⟨y', hy'⟩ := cell?_setCell_some (w := w2.drew) (p := ⟨w.heap.size + 1, 0, none⟩) (x := Value.int IntKind.i64 u) (q := ⟨w.heap.size + 1, 1, none⟩) (v := Value.int IntKind.i64 y) (by go_simp)
    go_region
    go_wp2_with fail
    refine bp_gen fun wf hwf => ?_
    have hfar : w.heap.size + 1 + 1 ≠ w.heap.size + 1 := by omega
    have hlo1 : w.heap.size ≤ w.heap.size + 1 := by omega
    have hlo2 : w.heap.size ≤ w.heap.size + 1 + 1 := by omega
    have HRF : Blk wf (w.heap.size + 1 + 1) 121 [.int .i64 u, .int .i64 v, .int .i64 z] := by rw [hwf]; first | exact ((((((HO2.out.far (p := ⟨w.heap.size + 1, 0, none⟩) hfar _).far (p := ⟨w.heap.size + 1, 1, none⟩) hfar _).set 0 _).set 1 _).set 2 _).drew) | exact (((((HO2.out.far (p := ⟨w.heap.size + 1, 0, none⟩) hfar _).far (p := ⟨w.heap.size + 1, 1, none⟩) hfar _).set 0 _).set 1 _).set 2 _)
    have HBF : Below w.heap.size w wf := by rw [hwf]; first | exact ((((((HB2.out.setCell (p := ⟨w.heap.size + 1, 0, none⟩) hlo1 _).setCell (p := ⟨w.heap.size + 1, 1, none⟩) hlo1 _).setCell (p := ⟨w.heap.size + 1 + 1, 0, none⟩) hlo2 _).setCell (p := ⟨w.heap.size + 1 + 1, 1, none⟩) hlo2 _).setCell (p := ⟨w.heap.size + 1 + 1, 2, none⟩) hlo2 _).drew) | exact (((((HB2.out.setCell (p := ⟨w.heap.size + 1, 0, none⟩) hlo1 _).setCell (p := ⟨w.heap.size + 1, 1, none⟩) hlo1 _).setCell (p := ⟨w.heap.size + 1 + 1, 0, none⟩) hlo2 _).setCell (p := ⟨w.heap.size + 1 + 1, 1, none⟩) hlo2 _).setCell (p := ⟨w.heap.size + 1 + 1, 2, none⟩) hlo2 _)
    clear hwf l0 l1 l2 l3 l4 l5 p0 p1 o0 o1 o2 o3 o4 o5 hy'
    have q0 := HRF.cell 0 _ rfl
    have q1 := HRF.cell 1 _ rfl
    have q2 := HRF.cell 2 _ rfl
    exact bodyPost_ret (v := .agg #[.int .i64 u, .int .i64 v, .int .i64 z]) (by simp [results, Try.results146, go_sem, q0, q1, q2]) rfl ⟨rfl, HBF⟩

  · clear k0 k1 k2 k3 k4
    refine ex_gen (Q := Exit.then _ _) fun w2 hw2 => ?_
    skip
    have hsz := Z1.out
    have hsw : w.heap.size + 1 + 1 < w1.heap.size := by have := HO.out.lt; omega
    have HL2 : Hid (Blk w2 (w.heap.size + 1) 121 [.int .i64 x, .int .i64 y, .int .i64 z]) := hide (by rw [hw2]; exact ((HL.out).far (p := ⟨w1.heap.size, 0, none⟩) (by show _ ≠ w1.heap.size; omega) _).far (p := ⟨w1.heap.size, 1, none⟩) (by show _ ≠ w1.heap.size; omega) _)
    have HO2 : Hid (Blk w2 (w.heap.size + 1 + 1) 121 [.int .i64 0, .int .i64 0, .int .i64 0]) := hide (by rw [hw2]; exact ((HO.out).far (p := ⟨w1.heap.size, 0, none⟩) (by show _ ≠ w1.heap.size; omega) _).far (p := ⟨w1.heap.size, 1, none⟩) (by show _ ≠ w1.heap.size; omega) _)
    have HP2 : Hid (Blk w2 (w1.heap.size) 97 [.int .i64 u, .int .i64 v]) := hide (by rw [hw2]; exact (HPB.out.set 0 _).set 1 _)
    have HB2 : Hid (Below w.heap.size w w2) := hide (by rw [hw2]; exact (HBc.out.setCell (p := ⟨w1.heap.size, 0, none⟩) (by show w.heap.size ≤ w1.heap.size; omega) _).setCell (p := ⟨w1.heap.size, 1, none⟩) (by show w.heap.size ≤ w1.heap.size; omega) _)
    clear hw2
    obtain ⟨P, hPe⟩ : ∃ P, w1.heap.size = P := ⟨_, rfl⟩
    rw [hPe] at HP2 hsw ⊢
    have l0 := HL2.out.cell 0 _ rfl
    have l1 := HL2.out.cell 1 _ rfl
    have l2 := HL2.out.cell 2 _ rfl
    have l3 := HL2.out.frozen 0
    have l4 := HL2.out.frozen 1
    have l5 := HL2.out.frozen 2
    have p0 := HP2.out.cell 0 _ rfl
    have p1 := HP2.out.cell 1 _ rfl
    have o0 := HO2.out.cell 0 _ rfl
    have o1 := HO2.out.cell 1 _ rfl
    have o2 := HO2.out.cell 2 _ rfl
    have o3 := HO2.out.frozen 0
    have o4 := HO2.out.frozen 1
    have o5 := HO2.out.frozen 2
    have n1 : P ≠ w.heap.size + 1 := by omega
    have n2 : P ≠ w.heap.size + 1 + 1 := by omega
    have n3 := n1.symm
    have n4 := n2.symm
    go_wp2_with fail
    obtain ⟨y', hy'⟩ := cell?_setCell_some (w := w2.drew) (p := ⟨w.heap.size + 1, 0, none⟩) (x := Value.int IntKind.i64 u) (q := ⟨w.heap.size + 1, 1, none⟩) (v := Value.int IntKind.i64 y) (by go_simp)
    go_region
    go_wp2_with fail
    refine bp_gen fun wf hwf => ?_
    have hfar : w.heap.size + 1 + 1 ≠ w.heap.size + 1 := by omega
    have hlo1 : w.heap.size ≤ w.heap.size + 1 := by omega
    have hlo2 : w.heap.size ≤ w.heap.size + 1 + 1 := by omega
    have HRF : Blk wf (w.heap.size + 1 + 1) 121 [.int .i64 u, .int .i64 v, .int .i64 z] := by rw [hwf]; first | exact ((((((HO2.out.far (p := ⟨w.heap.size + 1, 0, none⟩) hfar _).far (p := ⟨w.heap.size + 1, 1, none⟩) hfar _).set 0 _).set 1 _).set 2 _).drew) | exact (((((HO2.out.far (p := ⟨w.heap.size + 1, 0, none⟩) hfar _).far (p := ⟨w.heap.size + 1, 1, none⟩) hfar _).set 0 _).set 1 _).set 2 _)
    have HBF : Below w.heap.size w wf := by rw [hwf]; first | exact ((((((HB2.out.setCell (p := ⟨w.heap.size + 1, 0, none⟩) hlo1 _).setCell (p := ⟨w.heap.size + 1, 1, none⟩) hlo1 _).setCell (p := ⟨w.heap.size + 1 + 1, 0, none⟩) hlo2 _).setCell (p := ⟨w.heap.size + 1 + 1, 1, none⟩) hlo2 _).setCell (p := ⟨w.heap.size + 1 + 1, 2, none⟩) hlo2 _).drew) | exact (((((HB2.out.setCell (p := ⟨w.heap.size + 1, 0, none⟩) hlo1 _).setCell (p := ⟨w.heap.size + 1, 1, none⟩) hlo1 _).setCell (p := ⟨w.heap.size + 1 + 1, 0, none⟩) hlo2 _).setCell (p := ⟨w.heap.size + 1 + 1, 1, none⟩) hlo2 _).setCell (p := ⟨w.heap.size + 1 + 1, 2, none⟩) hlo2 _)
    clear hwf l0 l1 l2 l3 l4 l5 p0 p1 o0 o1 o2 o3 o4 o5 hy'
    have q0 := HRF.cell 0 _ rfl
    have q1 := HRF.cell 1 _ rfl
    have q2 := HRF.cell 2 _ rfl
    exact bodyPost_ret (v := .agg #[.int .i64 u, .int .i64 v, .int .i64 z]) (by simp [results, Try.results146, go_sem, q0, q1, q2]) rfl ⟨rfl, HBF⟩

set_option maxRecDepth 100000 in
theorem leadAt1_any (A : Option Addr) (n c : Nat) (f : List (List Int)) (B : Option Addr) (m d : Nat) (s : List (List Int)) (x y z : Nat) (w : World) (hz : ZArg 1048576 w A n f B m s) (hp : PMap f s) (_hx : x < n) (hy : y < n) (hz' : z < n) :
    Calls Try.prog 146 #[.agg #[.slice A n c, .slice B m d], .int .i64 1, tv (x, y, z)] w fun e w' => e = .returned (tv (at1 f s (x, y, z))) ∧ Below w.heap.size w w' := by
  have HZ := hide hz
  have HP := hide hp
  have h12 := hz.sz.nb
  unfold at1 tv
  show Calls Try.prog 146 #[.agg #[.slice A n c, .slice B m d], .int .i64 1, .agg #[.int .i64 x, .int .i64 y, .int .i64 z]] w fun e w' => e = .returned (.agg #[.int .i64 (x : Nat), .int .i64 (ap f y z : Nat), .int .i64 (ap s y z : Nat)]) ∧ Below w.heap.size w w'
  obtain ⟨u, hu⟩ : ∃ u, ap f y z = u := ⟨_, rfl⟩
  obtain ⟨v, hv⟩ : ∃ v, ap s y z = v := ⟨_, rfl⟩
  rw [hu, hv]
  have HU := hide hu
  have HV := hide hv
  clear hz hp hu hv
  have hwp1 : IntKind.i64.wrap 1 = 1 := IntWalk.i64_in _ (by omega)
  have hwp2 : IntKind.i64.wrap 2 = 2 := IntWalk.i64_in _ (by omega)
  go_enter Try.func146, Try.ntmps146
  go_wp2_with fail
  refine wp_gen fun w1 hw1 => ?_
  have hb1 : Below w.heap.size w w1 := by rw [hw1]; exact (((Below.refl _ _).alloc (Nat.le_refl _) _).alloc (by simp) _).alloc (by simp; omega) _
  have HS : Hid (Blk w1 w.heap.size 30 [.slice A n c, .slice B m d]) := hide (by rw [hw1]; exact ((Blk.new _ _ _).alloc _).alloc _)
  have HL : Hid (Blk w1 (w.heap.size + 1) 121 [.int .i64 x, .int .i64 y, .int .i64 z]) := hide (by rw [hw1]; have h := (Blk.new (w.alloc (Obj.cells #[Value.slice A n c, Value.slice B m d] 30)) 121 [.int .i64 x, .int .i64 y, .int .i64 z]).alloc (Obj.cells #[Value.int IntKind.i64 0, Value.int IntKind.i64 0, Value.int IntKind.i64 0] 121); simpa using h)
  have HO : Hid (Blk w1 (w.heap.size + 1 + 1) 121 [.int .i64 0, .int .i64 0, .int .i64 0]) := hide (by rw [hw1]; have h := Blk.new ((w.alloc (Obj.cells #[Value.slice A n c, Value.slice B m d] 30)).alloc (Obj.cells #[Value.int IntKind.i64 x, Value.int IntKind.i64 y, Value.int IntKind.i64 z] 121)) 121 [.int .i64 0, .int .i64 0, .int .i64 0]; simpa using h)
  have HBc := hide hb1
  replace HZ := hide (HZ.out.later hb1)
  have Z1 : Hid (w1.heap.size = w.heap.size + 1 + 1 + 1) := hide (by rw [hw1]; simp)
  have j1 : w1.heap.size ≠ w.heap.size := by have := Z1.out; omega
  have j2 : w1.heap.size ≠ w.heap.size + 1 := by have := Z1.out; omega
  have j3 := j1.symm
  have j4 := j2.symm
  have hz1 : w.heap.size + 1 < w1.heap.size := by have := Z1.out; omega
  clear hw1 hb1
  have k0 := HS.out.cell 0 _ rfl
  have k1 := HS.out.cell 1 _ rfl
  have k2 := HL.out.cell 0 _ rfl
  have k3 := HL.out.cell 1 _ rfl
  have k4 := HL.out.cell 2 _ rfl
  go_region_held3 (fun w' => w'.cell? ⟨w.heap.size, 0, none⟩ = some (.slice A n c) ∧ w'.cell? ⟨w.heap.size, 1, none⟩ = some (.slice B m d) ∧ w'.cell? ⟨w.heap.size + 1, 0, none⟩ = some (.int .i64 x) ∧ w'.cell? ⟨w.heap.size + 1, 1, none⟩ = some (.int .i64 y) ∧ w'.cell? ⟨w.heap.size + 1, 2, none⟩ = some (.int .i64 z)) (first | exact ⟨k0, k1, k2, k3, k4⟩ | go_keep) (first | (go_at_call 69; go_must (refine calls_gen fun wc hwc => ?_; (first | (have hbx := al_drew_below hwc; have HPB : Hid (Blk wc w1.heap.size 97 [.int .i64 0, .int .i64 0]) := hide (by rw [hwc]; exact Blk.new _ _ _)) | (have hbx := al_below hwc; have HPB : Hid (Blk wc w1.heap.size 97 [.int .i64 0, .int .i64 0]) := hide (by rw [hwc]; exact Blk.new _ _ _)) | (have hbx := drew_below hwc; have HPB : Hid True := hide trivial) | (have hbx := eq_below hwc; have HPB : Hid True := hide trivial)); have hbx0 := hide hbx.size; replace HBc := hide (HBc.out.trans (hbx.mono HBc.out.size)); replace HZ := hide (HZ.out.later hbx); replace HS := hide (HS.out.later hbx); replace HL := hide (HL.out.later hbx); replace HO := hide (HO.out.later hbx); clear hwc hbx; refine (lead_any _ _ _ f _ _ _ s y z _ HZ.out HP.out hy hz').mono ?_; rintro e wd ⟨rfl, hbd⟩; replace HBc := hide (HBc.out.trans (hbd.mono HBc.out.size)); replace HZ := hide (HZ.out.later hbd); replace HS := hide (HS.out.later hbd); replace HL := hide (HL.out.later hbd); replace HO := hide (HO.out.later hbd); (first | (replace HPB := hide (HPB.out.later hbd); have k5 := HPB.out.cell 0 _ rfl; have k6 := HPB.out.cell 1 _ rfl; have k7 := HPB.out.frozen 0; have k8 := HPB.out.frozen 1) | skip); have hsd := hbd.size; have hsx := hbx0.out; have g1 : wd.heap.size ≠ w.heap.size := (by omega); have g2 : wd.heap.size ≠ w.heap.size + 1 := (by omega); have g3 := g1.symm; have g4 := g2.symm; clear hsd hsx; clear hbd; have k0 := HS.out.cell 0 _ rfl; have k1 := HS.out.cell 1 _ rfl; have k2 := HL.out.cell 0 _ rfl; have k3 := HL.out.cell 1 _ rfl; have k4 := HL.out.cell 2 _ rfl; rw [HU.out, HV.out])))

  · clear k0 k1 k2 k3 k4
    refine ex_gen (Q := Exit.then _ _) fun w2 hw2 => ?_
    have hb2 : Below wd.heap.size wd w2 := by rw [hw2]; exact (Below.refl _ _).alloc (Nat.le_refl _) _
    have hsz := Z1.out
    have hsw : w.heap.size + 1 + 1 < wd.heap.size := by have := HO.out.lt; omega
    have HL2 : Hid (Blk w2 (w.heap.size + 1) 121 [.int .i64 x, .int .i64 y, .int .i64 z]) := hide (HL.out.later hb2)
    have HO2 : Hid (Blk w2 (w.heap.size + 1 + 1) 121 [.int .i64 0, .int .i64 0, .int .i64 0]) := hide (HO.out.later hb2)
    have HP2 : Hid (Blk w2 (wd.heap.size) 97 [.int .i64 u, .int .i64 v]) := hide (by rw [hw2]; exact Blk.new _ _ _)
    have HB2 : Hid (Below w.heap.size w w2) := hide (by rw [hw2]; exact HBc.out.alloc HBc.out.size _)
    clear hw2
    obtain ⟨P, hPe⟩ : ∃ P, wd.heap.size = P := ⟨_, rfl⟩
    rw [hPe] at HP2 hsw ⊢
    have l0 := HL2.out.cell 0 _ rfl
    have l1 := HL2.out.cell 1 _ rfl
    have l2 := HL2.out.cell 2 _ rfl
    have l3 := HL2.out.frozen 0
    have l4 := HL2.out.frozen 1
    have l5 := HL2.out.frozen 2
    have p0 := HP2.out.cell 0 _ rfl
    have p1 := HP2.out.cell 1 _ rfl
    have o0 := HO2.out.cell 0 _ rfl
    have o1 := HO2.out.cell 1 _ rfl
    have o2 := HO2.out.cell 2 _ rfl
    have o3 := HO2.out.frozen 0
    have o4 := HO2.out.frozen 1
    have o5 := HO2.out.frozen 2
    have n1 : P ≠ w.heap.size + 1 := by omega
    have n2 : P ≠ w.heap.size + 1 + 1 := by omega
    have n3 := n1.symm
    have n4 := n2.symm
    go_wp2_with fail
    obtain ⟨y', hy'⟩ := cell?_setCell_some (w := w2.drew) (p := ⟨w.heap.size + 1, 1, none⟩) (x := Value.int IntKind.i64 u) (q := ⟨w.heap.size + 1, 2, none⟩) (v := Value.int IntKind.i64 z) (by go_simp)
    go_region
    go_wp2_with fail
    refine bp_gen fun wf hwf => ?_
    have hfar : w.heap.size + 1 + 1 ≠ w.heap.size + 1 := by omega
    have hlo1 : w.heap.size ≤ w.heap.size + 1 := by omega
    have hlo2 : w.heap.size ≤ w.heap.size + 1 + 1 := by omega
    have HRF : Blk wf (w.heap.size + 1 + 1) 121 [.int .i64 x, .int .i64 u, .int .i64 v] := by rw [hwf]; first | exact ((((((HO2.out.far (p := ⟨w.heap.size + 1, 1, none⟩) hfar _).far (p := ⟨w.heap.size + 1, 2, none⟩) hfar _).set 0 _).set 1 _).set 2 _).drew) | exact (((((HO2.out.far (p := ⟨w.heap.size + 1, 1, none⟩) hfar _).far (p := ⟨w.heap.size + 1, 2, none⟩) hfar _).set 0 _).set 1 _).set 2 _)
    have HBF : Below w.heap.size w wf := by rw [hwf]; first | exact ((((((HB2.out.setCell (p := ⟨w.heap.size + 1, 1, none⟩) hlo1 _).setCell (p := ⟨w.heap.size + 1, 2, none⟩) hlo1 _).setCell (p := ⟨w.heap.size + 1 + 1, 0, none⟩) hlo2 _).setCell (p := ⟨w.heap.size + 1 + 1, 1, none⟩) hlo2 _).setCell (p := ⟨w.heap.size + 1 + 1, 2, none⟩) hlo2 _).drew) | exact (((((HB2.out.setCell (p := ⟨w.heap.size + 1, 1, none⟩) hlo1 _).setCell (p := ⟨w.heap.size + 1, 2, none⟩) hlo1 _).setCell (p := ⟨w.heap.size + 1 + 1, 0, none⟩) hlo2 _).setCell (p := ⟨w.heap.size + 1 + 1, 1, none⟩) hlo2 _).setCell (p := ⟨w.heap.size + 1 + 1, 2, none⟩) hlo2 _)
    clear hwf l0 l1 l2 l3 l4 l5 p0 p1 o0 o1 o2 o3 o4 o5 hy'
    have q0 := HRF.cell 0 _ rfl
    have q1 := HRF.cell 1 _ rfl
    have q2 := HRF.cell 2 _ rfl
    exact bodyPost_ret (v := .agg #[.int .i64 x, .int .i64 u, .int .i64 v]) (by simp [results, Try.results146, go_sem, q0, q1, q2]) rfl ⟨rfl, HBF⟩

  · clear k0 k1 k2 k3 k4
    refine ex_gen (Q := Exit.then _ _) fun w2 hw2 => ?_
    skip
    have hsz := Z1.out
    have hsw : w.heap.size + 1 + 1 < w1.heap.size := by have := HO.out.lt; omega
    have HL2 : Hid (Blk w2 (w.heap.size + 1) 121 [.int .i64 x, .int .i64 y, .int .i64 z]) := hide (by rw [hw2]; exact ((HL.out).far (p := ⟨w1.heap.size, 0, none⟩) (by show _ ≠ w1.heap.size; omega) _).far (p := ⟨w1.heap.size, 1, none⟩) (by show _ ≠ w1.heap.size; omega) _)
    have HO2 : Hid (Blk w2 (w.heap.size + 1 + 1) 121 [.int .i64 0, .int .i64 0, .int .i64 0]) := hide (by rw [hw2]; exact ((HO.out).far (p := ⟨w1.heap.size, 0, none⟩) (by show _ ≠ w1.heap.size; omega) _).far (p := ⟨w1.heap.size, 1, none⟩) (by show _ ≠ w1.heap.size; omega) _)
    have HP2 : Hid (Blk w2 (w1.heap.size) 97 [.int .i64 u, .int .i64 v]) := hide (by rw [hw2]; exact (HPB.out.set 0 _).set 1 _)
    have HB2 : Hid (Below w.heap.size w w2) := hide (by rw [hw2]; exact (HBc.out.setCell (p := ⟨w1.heap.size, 0, none⟩) (by show w.heap.size ≤ w1.heap.size; omega) _).setCell (p := ⟨w1.heap.size, 1, none⟩) (by show w.heap.size ≤ w1.heap.size; omega) _)
    clear hw2
    obtain ⟨P, hPe⟩ : ∃ P, w1.heap.size = P := ⟨_, rfl⟩
    rw [hPe] at HP2 hsw ⊢
    have l0 := HL2.out.cell 0 _ rfl
    have l1 := HL2.out.cell 1 _ rfl
    have l2 := HL2.out.cell 2 _ rfl
    have l3 := HL2.out.frozen 0
    have l4 := HL2.out.frozen 1
    have l5 := HL2.out.frozen 2
    have p0 := HP2.out.cell 0 _ rfl
    have p1 := HP2.out.cell 1 _ rfl
    have o0 := HO2.out.cell 0 _ rfl
    have o1 := HO2.out.cell 1 _ rfl
    have o2 := HO2.out.cell 2 _ rfl
    have o3 := HO2.out.frozen 0
    have o4 := HO2.out.frozen 1
    have o5 := HO2.out.frozen 2
    have n1 : P ≠ w.heap.size + 1 := by omega
    have n2 : P ≠ w.heap.size + 1 + 1 := by omega
    have n3 := n1.symm
    have n4 := n2.symm
    go_wp2_with fail
    obtain ⟨y', hy'⟩ := cell?_setCell_some (w := w2.drew) (p := ⟨w.heap.size + 1, 1, none⟩) (x := Value.int IntKind.i64 u) (q := ⟨w.heap.size + 1, 2, none⟩) (v := Value.int IntKind.i64 z) (by go_simp)
    go_region
    go_wp2_with fail
    refine bp_gen fun wf hwf => ?_
    have hfar : w.heap.size + 1 + 1 ≠ w.heap.size + 1 := by omega
    have hlo1 : w.heap.size ≤ w.heap.size + 1 := by omega
    have hlo2 : w.heap.size ≤ w.heap.size + 1 + 1 := by omega
    have HRF : Blk wf (w.heap.size + 1 + 1) 121 [.int .i64 x, .int .i64 u, .int .i64 v] := by rw [hwf]; first | exact ((((((HO2.out.far (p := ⟨w.heap.size + 1, 1, none⟩) hfar _).far (p := ⟨w.heap.size + 1, 2, none⟩) hfar _).set 0 _).set 1 _).set 2 _).drew) | exact (((((HO2.out.far (p := ⟨w.heap.size + 1, 1, none⟩) hfar _).far (p := ⟨w.heap.size + 1, 2, none⟩) hfar _).set 0 _).set 1 _).set 2 _)
    have HBF : Below w.heap.size w wf := by rw [hwf]; first | exact ((((((HB2.out.setCell (p := ⟨w.heap.size + 1, 1, none⟩) hlo1 _).setCell (p := ⟨w.heap.size + 1, 2, none⟩) hlo1 _).setCell (p := ⟨w.heap.size + 1 + 1, 0, none⟩) hlo2 _).setCell (p := ⟨w.heap.size + 1 + 1, 1, none⟩) hlo2 _).setCell (p := ⟨w.heap.size + 1 + 1, 2, none⟩) hlo2 _).drew) | exact (((((HB2.out.setCell (p := ⟨w.heap.size + 1, 1, none⟩) hlo1 _).setCell (p := ⟨w.heap.size + 1, 2, none⟩) hlo1 _).setCell (p := ⟨w.heap.size + 1 + 1, 0, none⟩) hlo2 _).setCell (p := ⟨w.heap.size + 1 + 1, 1, none⟩) hlo2 _).setCell (p := ⟨w.heap.size + 1 + 1, 2, none⟩) hlo2 _)
    clear hwf l0 l1 l2 l3 l4 l5 p0 p1 o0 o1 o2 o3 o4 o5 hy'
    have q0 := HRF.cell 0 _ rfl
    have q1 := HRF.cell 1 _ rfl
    have q2 := HRF.cell 2 _ rfl
    exact bodyPost_ret (v := .agg #[.int .i64 x, .int .i64 u, .int .i64 v]) (by simp [results, Try.results146, go_sem, q0, q1, q2]) rfl ⟨rfl, HBF⟩
end Go.Proofs.Ytpnlmmilnglmkaa
