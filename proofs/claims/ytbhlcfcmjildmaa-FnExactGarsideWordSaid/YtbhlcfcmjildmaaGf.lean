import Derived.Test.YtbhlcfcmjildmaaGd
import Derived.Test.YtbhlcfcmjildmaaGa
import Derived.Test.YtbhlcfcmjildmaaProg
import Derived.Test.YtbhlcfcmjildmaaGe
import Derived.Test.YtbhlcfcmjildmaaGc
import Derived.Test.YtbhlcfcmjildmaaGb
import Derived.Test.YtbhlcfcmjildmaaSortLaid
import Derived.Deep.Cut
namespace Go.Proofs.Ytbhlcfcmjildmaa
open Go Go.RowKit
open Classical
set_option maxHeartbeats 1000000
/-- The place of the first cell that is false, or none. -/
theorem indexB_any (g N n c : Nat) (F : Nat → Bool) (x : Int) (w : World) (hn : n ≤ N) (hN : N ≤ 4096) (hb : BoolB 92 w g N F) (hx : (x = -1 ∧ ∀ i, i < n → F i = true) ∨ ∃ k : Nat, k < n ∧ x = k ∧ F k = false ∧ ∀ i, i < k → F i = true) :
    Calls Try.prog 88 #[.slice (some ⟨g, 0, none⟩) n c, .bool false] w fun e w' => e = .returned (.int .i64 x) ∧ Quiet w w' := by
  have HX := hide hx
  have HB := hide hb
  clear hx hb
  go_enter Try.func88, Try.ntmps88
  go_wp2_with fail
  go_loopw [8] (fun i wr => ∃ k : Nat, k ≤ n ∧ i = .int .i64 k ∧ Quiet w wr ∧ ∀ j, j < k → F j = true) (fun i _ => n - (intOf i).toNat)
  case atStart => exact ⟨0, Nat.zero_le _, rfl, Quiet.refl _, fun j hj => by omega⟩
  case round =>
    obtain ⟨k, hk, rfl, hq, hno⟩ := hrel
    have HNO := hide hno
    have HQ := hide hq
    clear hno
    by_cases hlt : k < n
    · have hc1 := (hq.cell ⟨g, k, none⟩).trans (HB.out.cell (i := k) (by omega))
      obtain ⟨q, hqe⟩ : ∃ q, F k = q := ⟨_, rfl⟩
      rw [hqe] at hc1
      have HQE := hide hqe
      have hltz : (k : Int) < n := by omega
      clear hq hqe
      cases q with
      | false =>
        have hxk : x = k := by
          rcases HX.out with ⟨_, h⟩ | ⟨k', h1, h2, h3, h4⟩
          · have := h k hlt; rw [HQE.out] at this; cases this
          · have h5 : k = k' := by
              rcases Nat.lt_trichotomy k k' with h | h | h
              · have := h4 k h; rw [HQE.out] at this; cases this
              · exact h
              · have := HNO.out k' h; rw [h3] at this; cases this
            rw [h2, h5]
        have HXK := hide hxk
        clear hxk
        go_wp2_with fail
        go_ret
        exact ⟨by rw [HXK.out]; first | rfl | trivial, HQ.out⟩
      | true =>
        go_wp2_with fail
        go_roundw
        case rel =>
          refine ⟨k + 1, by omega, by go_num, HQ.out, fun j hj => ?_⟩
          by_cases e : j = k
          · rw [e]; exact HQE.out
          · exact HNO.out j (by omega)
        case measure => simp [intOf]; omega
    · have hkn : k = n := by omega
      subst hkn
      have hxk : x = -1 := by
        rcases HX.out with ⟨h, _⟩ | ⟨k', h1, h2, h3, h4⟩
        · exact h
        · have := HNO.out k' h1; rw [h3] at this; cases this
      have HXK := hide hxk
      clear hq hxk
      go_wp2_with fail
      go_ret
      exact ⟨by rw [HXK.out]; first | rfl | trivial, HQ.out⟩
theorem firstF_ex (n : Nat) (F : Nat → Bool) : ∃ x : Int, (x = -1 ∧ ∀ i, i < n → F i = true) ∨ ∃ k : Nat, k < n ∧ x = k ∧ F k = false ∧ ∀ i, i < k → F i = true := by
  induction n with
  | zero => exact ⟨-1, .inl ⟨rfl, fun i hi => by omega⟩⟩
  | succ n ih =>
    obtain ⟨x, ⟨hx, h⟩ | ⟨k, h1, h2, h3, h4⟩⟩ := ih
    · cases e : F n
      · exact ⟨n, .inr ⟨n, by omega, rfl, e, h⟩⟩
      · refine ⟨-1, .inl ⟨rfl, fun i hi => ?_⟩⟩
        by_cases hin : i = n
        · rw [hin]; exact e
        · exact h i (by omega)
    · exact ⟨x, .inr ⟨k, by omega, h2, h3, h4⟩⟩
theorem containsB_any (g N n c : Nat) (F : Nat → Bool) (r : Bool) (w : World) (hn : n ≤ N) (hN : N ≤ 4096) (hb : BoolB 92 w g N F) (hr : r = true ↔ ∃ k, k < n ∧ F k = false) :
    Calls Try.prog 71 #[.slice (some ⟨g, 0, none⟩) n c, .bool false] w fun e w' => e = .returned (.bool r) ∧ Quiet w w' := by
  obtain ⟨x, hx⟩ := firstF_ex n F
  have HX := hide hx
  have HR := hide hr
  have HB := hide hb
  clear hr hb
  have h2 : decide (0 ≤ x) = r := by
    rcases hx with ⟨h1, h2⟩ | ⟨k, h1, h2, h3, _⟩
    · cases r
      · simp [h1]
      · obtain ⟨k, hk, e⟩ := HR.out.1 rfl
        rw [h2 k hk] at e; cases e
    · have : r = true := HR.out.2 ⟨k, h1, h3⟩
      rw [this, h2]; simp
  have HD := hide h2
  clear hx h2
  go_enter Try.func71, Try.ntmps71
  go_wp2_with fail
  refine (indexB_any g N n c F x _ hn hN HB.out HX.out).mono ?_
  rintro e w1 ⟨rfl, hq⟩
  have HQ := hide hq
  clear hq
  go_wp2_with fail
  go_ret
  exact ⟨by rw [← HD.out]; rfl, HQ.out⟩
end Go.Proofs.Ytbhlcfcmjildmaa
namespace Go.Proofs.Ytbhlcfcmjildmaa
open Go Go.RowKit
set_option maxHeartbeats 1000000

def colL (rows : List (List Int)) (j : Nat) : List Int := (List.range rows.length).map fun (x : Nat) => (rows.getD x []).getD j 0
theorem colL_length (rows : List (List Int)) (j : Nat) : (colL rows j).length = rows.length := by simp [colL]
theorem colL_getD (rows : List (List Int)) (j k : Nat) (h : k < rows.length) : (colL rows j).getD k 0 = (rows.getD k []).getD j 0 := by simp [colL, h]
theorem turnL_row (rows : List (List Int)) (j : Nat) (h : j < rows.length) : (turnL rows).getD j [] = colL rows j := by
  unfold turnL
  rw [grid_row _ _ _ h]
  rfl

theorem ints_take_succ (zs : List Int) (k : Nat) (y : Int) (h : k < zs.length) (hy : zs.getD k 0 = y) : ints (zs.take k) ++ [.int .i64 y] = ints (zs.take (k + 1)) := by
  rw [List.take_succ_eq_append_getElem h]
  have : zs[k] = y := by simpa [h] using hy
  simp [ints, this]

theorem colInfo : (Try.prog.info? 2).map (fun i => (i.zero, i.size, i.bytes)) = some (some (.int .i64 0), 1, 8) := by kernel_rfl
theorem colsInfo2 : (Try.prog.info? 26).map (fun i => (i.zero, i.size, i.bytes)) = some (some (.slice none 0 0), 1, 24) := by kernel_rfl

theorem row_empty (w : World) (t : TypeId) : (w.alloc (.cells #[] t)).ownsRow w.heap.size t 1 (.slice (some ⟨w.heap.size, 0, none⟩) 0 0) 0 [] :=
  ⟨by simp, .inr ⟨w.heap.size, 0, #[], rfl, Nat.le_refl _, heap_alloc_new _ _, Nat.le_refl _, by unfold maxLen; omega, by simp, by simp⟩⟩

theorem one_new {w : World} {v : Value} {t : TypeId} : ∀ j u, [v][j]? = some u → (w.alloc (.cells #[v] t)).cell? ((⟨w.heap.size, 0, none⟩ : Addr).add j) = some u := by
  intro j u hj
  match j, hj with
  | 0, hj => simp at hj; subst hj; simp [Addr.add, World.cell?_alloc_new]

theorem l01Column_any (A : Option Addr) (n c m j : Nat) (rows : List (List Int)) (w : World) (hn : rows.length = n) (hb : n ≤ 1048576) (hm : m ≤ 1048576) (hbs : ∀ i, i < rows.length → (rows.getD i []).length = m) (hj : j < m) (hr : Rd2 w A rows) :
    Calls Try.prog 80 #[.slice A n c, .int .i64 j] w fun e w' => ∃ A' c', e = .returned (.slice A' n c') ∧ Below w.heap.size w w' ∧ Res 2 w.heap.size w' A' (colL rows j) := by
  have HN := hide hn
  have HZ : Hid ((colL rows j).length = n) := hide ((colL_length rows j).trans hn)
  clear hn
  obtain ⟨i0, hi, hz0, hz1, hz2⟩ := info_parts colInfo
  go_enter Try.func80, Try.ntmps80
  go_wp2_with fail
  go_loopw [5, 6] (fun v i wr => ∃ k : Nat, k ≤ n ∧ i = .int .i64 k ∧ Below w.heap.size w wr ∧ wr.ownsRow w.heap.size 2 1 v k (ints ((colL rows j).take k)) ∧ w.heap.size ≤ wr.heap.size) (fun _ i _ => n - (intOf i).toNat)
  case atStart => exact ⟨0, Nat.zero_le _, rfl, (Below.refl _ _).alloc (Nat.le_refl _) _, by simpa [ints] using row_empty w _, by simp⟩
  case round =>
    obtain ⟨k, hk, rfl, hbe, hown, hsz⟩ := hrel
    have HB := hide hbe
    have HO := hide hown
    clear hbe hown
    by_cases hlt : k < n
    · obtain ⟨b, o, rfl, hbw, hc⟩ := hr (by have := HN.out; omega)
      obtain ⟨Ak, ck, hcell, hrd⟩ := hc k (by have := HN.out; omega)
      have hl := hbs k (by have := HN.out; omega)
      obtain ⟨r, hx'⟩ : ∃ r, r = rows.getD k [] := ⟨_, rfl⟩
      rw [← hx'] at hcell hrd hl
      rw [hl] at hcell
      have HX := hide hx'
      have HL := hide hl
      have hcell' : wr.cell? ⟨b, o + k, none⟩ = some (.slice Ak m ck) := (HB.out.cell (p := ⟨b, o + k, none⟩) hbw).trans hcell
      obtain ⟨b2, o2, rfl, hbw2, hc2⟩ := hrd (by omega)
      have hc3 : wr.cell? ⟨b2, o2 + j, none⟩ = some (.int .i64 (r.getD j 0)) := (HB.out.cell (p := ⟨b2, o2 + j, none⟩) hbw2).trans (hc2 j (by omega))
      obtain ⟨y, hy'⟩ : ∃ y, r.getD j 0 = y := ⟨_, rfl⟩
      rw [hy'] at hc3
      have HY : Hid ((colL rows j).getD k 0 = y) := hide (by rw [colL_getD rows j k (by have := HN.out; omega), ← HX.out]; exact hy')
      clear hx' hc hc2 hy' hcell hrd hl hbs hr
      have hltz : (k : Int) < n := by omega
      have hjz : (j : Int) < m := by omega
      go_wp2_with (at_builtin; refine wpList_append_own _ rfl _ _ 26 rfl w.heap.size 2 i0 (.int .i64 0) 1 8 Try.underlying26 hi hz0 hz1 hz2 rfl (by decide) _ _ _ rfl (HO.out.alloc _) ⟨wr.heap.size, 0, none⟩ 1 1 [.int .i64 y] rfl rfl ?c1 ?c2 ?c3 ?c4 ?c5 ?_)
      case c1 => exact one_new
      case c2 => intro u hu; simp at hu; subst hu; rfl
      case c3 => unfold maxLen; omega
      case c4 => omega
      case c5 => simp; omega
      intro v' w1 hown' hgrow _
      have HO' := hide hown'
      have HG := hide hgrow
      clear hown' hgrow
      go_wp2_with fail
      go_roundw
      case rel =>
        have hB1 : Below w.heap.size w w1 := (HB.out.alloc hsz _).grown HG.out (by simp; omega) (fun g hg => (HO.out.alloc (.cells #[.int .i64 y] 2)).lt g hg |>.1)
        refine ⟨k + 1, by omega, by go_num, hB1, ?_, by have := hB1.size; omega⟩
        have h := HO'.out
        rw [ints_take_succ _ k y (by have := HZ.out; omega) HY.out] at h
        exact h
      case measure => simp [intOf]; omega
    · have hkn : k = n := by omega
      subst hkn
      go_wp2_with fail
      have h := HO.out
      rw [List.take_of_length_le (by have := HZ.out; omega)] at h
      go_ret
      obtain ⟨A', c', hv, hres⟩ := own_shape h
      exact ⟨A', c', by rw [← hv]; rfl, HB.out, hres⟩

theorem l01Turn_any (A : Option Addr) (n c : Nat) (rows : List (List Int)) (w : World) (hn : rows.length = n) (hb : n ≤ 1048576) (hbs : ∀ i, i < rows.length → (rows.getD i []).length = n) (hr : Rd2 w A rows) :
    Calls Try.prog 56 #[.slice A n c] w fun e w' => ∃ A' c', e = .returned (.slice A' n c') ∧ Below w.heap.size w w' ∧ Obj2 26 2 w.heap.size w'.heap.size w' A' (turnL rows) := by
  have HN := hide hn
  have HZ : Hid ((turnL rows).length = n) := hide ((turnL_length rows).trans hn)
  clear hn
  obtain ⟨i0, hi, hz0, hz1, hz2⟩ := info_parts colsInfo2
  go_enter Try.func56, Try.ntmps56
  go_wp2_with fail
  go_loopw [3, 4] (fun v i wr => ∃ (k : Nat) (vals : List Value), k ≤ n ∧ i = .int .i64 k ∧ Below w.heap.size w wr ∧ LstV 26 2 w.heap.size wr v ((turnL rows).take k) vals ∧ w.heap.size ≤ wr.heap.size) (fun _ i _ => n - (intOf i).toNat)
  case atStart => exact ⟨0, [], Nat.zero_le _, rfl, (Below.refl _ _).alloc (Nat.le_refl _) _, by simpa using LstV.start w _ _, by simp⟩
  case round =>
    obtain ⟨k, vals, hk, rfl, hbe, hlst, hsz⟩ := hrel
    have HB := hide hbe
    have HL := hide hlst
    clear hbe hlst
    by_cases hlt : k < n
    · have hltz : (k : Int) < n := by omega
      go_wp2_with fail
      refine (l01Column_any _ _ _ n k rows _ HN.out hb hb hbs hlt (hr.later HB.out)).mono ?_
      rintro e w2 ⟨A2, c2, rfl, hb2, hres⟩
      have HB2 := hide hb2
      have HR2 := hide hres.obj
      clear hb2 hres
      have HL2 := hide (HL.out.later HB2.out)
      have hlen : ((turnL rows).take k).length = k := by have := HZ.out; simp; omega
      have hown : w2.ownsRow w.heap.size 26 1 u3 k vals := by have := HL2.out.own; rwa [hlen] at this
      have HO := hide hown
      have hs2 : w.heap.size ≤ w2.heap.size := by have := HB2.out.size; omega
      clear hown hlen
      go_wp2_with (at_builtin; refine wpList_append_own _ rfl _ _ 22 rfl w.heap.size 26 i0 (.slice none 0 0) 1 24 Try.underlying22 hi hz0 hz1 hz2 rfl (by decide) _ _ _ rfl (HO.out.alloc _) ⟨w2.heap.size, 0, none⟩ 1 1 [.slice A2 n c2] rfl rfl ?c1 ?c2 ?c3 ?c4 ?c5 ?_)
      case c1 => exact one_new
      case c2 => intro u hu; simp at hu; subst hu; rfl
      case c3 => unfold maxLen; omega
      case c4 => omega
      case c5 => simp; omega
      intro v' w3 hown' hgrow _
      have HO' := hide hown'
      have HG := hide hgrow
      clear hown' hgrow
      go_wp2_with fail
      go_roundw
      case rel =>
        have hB3 : Below w.heap.size w w3 := ((HB.out.trans (HB2.out.mono hsz)).alloc hs2 _).grown HG.out (by simp; omega) (fun g hg => (HO.out.alloc (.cells #[.slice A2 n c2] 26)).lt g hg |>.1)
        have hN := HN.out
        have hlen : ((turnL rows).take k).length = k := by have := HZ.out; simp; omega
        have hrow : (turnL rows).getD k [] = colL rows k := turnL_row rows k (by omega)
        have hcl : (colL rows k).length = n := by rw [colL_length]; exact hN
        have hpush := LstV.push (tmp := .cells #[.slice A2 n c2] 26) (A := A2) (c := c2) (r := colL rows k) (w1 := w3) (v' := v') (by decide) hsz HL.out HB2.out HR2.out (by rw [hlen, hcl]; exact HO'.out) HG.out
        refine ⟨k + 1, vals ++ [.slice A2 (colL rows k).length c2], by omega, by go_num, hB3, ?_, by have := hB3.size; omega⟩
        have e : (turnL rows).take (k + 1) = (turnL rows).take k ++ [colL rows k] := by
          have hl : k < (turnL rows).length := by have := HZ.out; omega
          rw [List.take_succ_eq_append_getElem hl, ← hrow]
          simp [hl]
        rw [e]
        exact hpush
      case measure => simp [intOf]; omega
    · have hkn : k = n := by omega
      subst hkn
      go_wp2_with fail
      have h := HL.out
      rw [List.take_of_length_le (by have := HZ.out; omega)] at h
      go_ret
      obtain ⟨A', c', hv, hobj⟩ := h.shape
      have hz := HZ.out
      exact ⟨A', c', by rw [hz] at hv; rw [← hv]; rfl, HB.out, hobj⟩
end Go.Proofs.Ytbhlcfcmjildmaa

namespace Go.Proofs.Ytbhlcfcmjildmaa
open Go Go.RowKit

theorem pair_div (n x y : Nat) (hy : y < n) : (x * n + y) / n = x := by
  rw [Nat.mul_comm, Nat.mul_add_div (by omega), Nat.div_eq_of_lt hy, Nat.add_zero]
theorem pair_mod (n x y : Nat) (hy : y < n) : (x * n + y) % n = y := by
  rw [Nat.mul_comm, Nat.mul_add_mod, Nat.mod_eq_of_lt hy]
theorem pair_lt (n x y : Nat) (hx : x < n) (hy : y < n) : x * n + y < n * n := by
  have h : (x + 1) * n ≤ n * n := Nat.mul_le_mul_right n hx
  rw [Nat.add_mul, Nat.one_mul] at h
  omega
theorem div_lt_sq {n k : Nat} (hk : k < n * n) : k / n < n := Nat.div_lt_of_lt_mul hk
theorem mod_lt_sq {n k : Nat} (hk : k < n * n) : k % n < n := by
  rcases Nat.eq_zero_or_pos n with rfl | h
  · simp at hk
  · exact Nat.mod_lt _ h
theorem pair_eta (n k : Nat) : k / n * n + k % n = k := Nat.div_add_mod' k n
theorem sq_le (n : Nat) (h : n ≤ 12) : n * n ≤ 144 := Nat.mul_le_mul h h
end Go.Proofs.Ytbhlcfcmjildmaa
namespace Go.Proofs.Ytbhlcfcmjildmaa
open Go Go.RowKit

theorem grid_sz {n : Nat} (h : n ≤ 1048576) (f g : Nat → Nat → Int) : ZSz 1048576 (grid n f) (grid n f).length (grid n g) (grid n g).length :=
  ⟨rfl, by rw [grid_length]; exact h, fun i hi => by rw [grid_length] at hi; rw [grid_row_length _ _ _ hi]; exact h, rfl, by rw [grid_length]; exact h, fun i hi => by rw [grid_length] at hi; rw [grid_row_length _ _ _ hi]; exact h⟩
theorem nil_sz : ZSz 1048576 [] ([] : List (List Int)).length [] ([] : List (List Int)).length := ⟨rfl, by simp, by simp, rfl, by simp, by simp⟩

/-- A pair of tables where all is well, else a code. -/
def GRes (good : Prop) (n : Nat) (h1 h2 : Nat → Nat → Int) (err : Int) (zf zg : List (List Int)) (code : Int) : Prop := (good ∧ zf = grid n h1 ∧ zg = grid n h2 ∧ code = 0) ∨ (¬ good ∧ zf = [] ∧ zg = [] ∧ code = err)
theorem GRes.ex (good : Prop) (n : Nat) (h1 h2 : Nat → Nat → Int) (err : Int) (hn : good → n ≤ 1048576) : ∃ zf zg code, GRes good n h1 h2 err zf zg code ∧ ZSz 1048576 zf zf.length zg zg.length := by
  by_cases h : good
  · exact ⟨_, _, _, .inl ⟨h, rfl, rfl, rfl⟩, grid_sz (hn h) _ _⟩
  · exact ⟨_, _, _, .inr ⟨h, rfl, rfl, rfl⟩, nil_sz⟩

def mir1 (s : List (List Int)) : Nat → Nat → Int := fun x y => ((ap s y x : Nat) : Int)
def MirRes (f s : List (List Int)) : List (List Int) → List (List Int) → Int → Prop := GRes (PMap f s) f.length (mir1 s) (mir1 f) 1
theorem MirRes.ex (f s : List (List Int)) : ∃ zf zg code, MirRes f s zf zg code ∧ ZSz 1048576 zf zf.length zg zg.length := GRes.ex _ _ _ _ _ (fun h => by have := h.1.2.1; omega)
theorem mir_turn {s : List (List Int)} (h : Tbl s) : grid s.length (mir1 s) = turnL s := by
  unfold turnL
  refine grid_congr _ _ _ fun a b ha hb => ?_
  unfold mir1
  rw [h.ap_eq rfl hb ha]
def FlipRes (n : Int) : List (List Int) → List (List Int) → Int → Prop := GRes (1 ≤ n ∧ n ≤ 12) n.toNat (fun _ y => (y : Int)) (fun x _ => (x : Int)) 2
theorem FlipRes.ex (n : Int) : ∃ zf zg code, FlipRes n zf zg code ∧ ZSz 1048576 zf zf.length zg zg.length := GRes.ex _ _ _ _ _ (fun h => by omega)
end Go.Proofs.Ytbhlcfcmjildmaa
namespace Go.Proofs.Ytbhlcfcmjildmaa
open Go Go.RowKit

/-- The elements reached from x, the steps of the first i of them done. -/
structure OInv (rows : List (List Int)) (n x : Nat) (out : List Int) (i : Nat) : Prop where
  mem : (x : Int) ∈ out
  rng : ∀ v ∈ out, 0 ≤ v ∧ v < (n : Int)
  nd : out.Nodup
  rch : ∀ v ∈ out, Rch rows x v.toNat
  cl : ∀ j, j < i → ∀ r, r < rows.length → (rows.getD r []).getD (out.getD j 0).toNat 0 ∈ out
  le : i ≤ out.length

theorem nodup_le (out : List Int) (n : Nat) (hr : ∀ v ∈ out, 0 ≤ v ∧ v < (n : Int)) (hn : out.Nodup) : out.length ≤ n := by
  obtain ⟨l, hl⟩ := subset_perm out (Go.Proofs.Ytbhlcfcmjildmaa.rng n) hn (fun a ha => (mem_rng n a).2 (hr a ha))
  have := hl.length_eq
  rw [rng_length, List.length_append] at this
  omega
theorem OInv.most {rows : List (List Int)} {n x : Nat} {out : List Int} {i : Nat} (h : OInv rows n x out i) : out.length ≤ n := nodup_le out n h.rng h.nd
theorem OInv.start (rows : List (List Int)) (n x : Nat) (hx : x < n) : OInv rows n x [(x : Int)] 0 :=
  ⟨by simp, fun v hv => by simp at hv; subst hv; omega, by simp, fun v hv => by simp at hv; subst hv; rw [Int.toNat_natCast]; exact .start, fun j hj => absurd hj (Nat.not_lt_zero _), by simp⟩
theorem OInv.push {rows : List (List Int)} {n x : Nat} {out : List Int} {i r : Nat} (h : OInv rows n x out i) (hi : i < out.length) (hr : r < rows.length) (v : Int) (hv : v = (rows.getD r []).getD (out.getD i 0).toNat 0) (h0 : 0 ≤ v) (hn : v < (n : Int)) (hno : v ∉ out) : OInv rows n x (out ++ [v]) i := by
  refine ⟨by simp [h.mem], fun u hu => ?_, ?_, fun u hu => ?_, fun j hj s hs => ?_, by have := h.le; simp; omega⟩
  · rcases List.mem_append.1 hu with hu | hu
    · exact h.rng u hu
    · simp at hu; subst hu; exact ⟨h0, hn⟩
  · rw [List.nodup_append]
    exact ⟨h.nd, by simp, fun a ha b hb e => hno (by simp at hb; subst hb; subst e; exact ha)⟩
  · rcases List.mem_append.1 hu with hu | hu
    · exact h.rch u hu
    · simp at hu
      have hm : out.getD i 0 ∈ out := by simp [hi]
      subst hu
      exact .step (h.rch _ hm) ⟨r, hr, by rw [hv]⟩
  · have e : (out ++ [v]).getD j 0 = out.getD j 0 := by
      have : j < out.length := by omega
      simp [List.getElem?_append, this]
    rw [e]
    exact List.mem_append_left _ (h.cl j hj s hs)
theorem OInv.on {rows : List (List Int)} {n x : Nat} {out : List Int} {i : Nat} (h : OInv rows n x out i) (hi : i < out.length) (hr : ∀ r, r < rows.length → (rows.getD r []).getD (out.getD i 0).toNat 0 ∈ out) : OInv rows n x out (i + 1) :=
  ⟨h.mem, h.rng, h.nd, h.rch, fun j hj r hrr => by
    by_cases e : j = i
    · subst e; exact hr r hrr
    · exact h.cl j (by omega) r hrr, by omega⟩
theorem OInv.done {rows : List (List Int)} {n x : Nat} {out : List Int} (h : OInv rows n x out out.length) (y : Nat) : (y : Int) ∈ out ↔ Rch rows x y := by
  constructor
  · intro hy
    have := h.rch _ hy
    rwa [Int.toNat_natCast] at this
  · intro hy
    induction hy with
    | start => exact h.mem
    | step _ hs ih =>
      obtain ⟨r, hr, hz⟩ := hs
      obtain ⟨j, hj, hjy⟩ := List.getElem_of_mem ih
      have e : out.getD j 0 = out[j] := by simp [hj]
      have hc := h.cl j hj r hr
      rw [e, hjy, Int.toNat_natCast] at hc
      have h0 := (h.rng _ hc).1
      rw [← hz, Int.toNat_of_nonneg h0]
      exact hc
end Go.Proofs.Ytbhlcfcmjildmaa
namespace Go.Proofs.Ytbhlcfcmjildmaa
open Go Go.RowKit
set_option maxHeartbeats 1000000

theorem mapS_any (A : Option Addr) (n c : Nat) (f : List (List Int)) (B : Option Addr) (m d : Nat) (s : List (List Int)) (r : Bool) (w : World) (hz : ZArg 1048576 w A n f B m s) (hr : r = true ↔ PMap f s) :
    Calls Try.prog 52 #[.agg #[.slice A n c, .slice B m d]] w fun e w' => e = .returned (.bool r) ∧ Below w.heap.size w w' := by
  have HZ := hide hz
  have HR := hide hr
  clear hz hr
  have HB0 := hide ((Below.refl _ w).alloc (Nat.le_refl _) (Obj.cells #[Value.slice A n c, Value.slice B m d] 29))
  have HK0 := hide (Blk.new w 29 [.slice A n c, .slice B m d])
  by_cases h1 : Tbl f
  · have H1 := hide h1
    clear h1
    by_cases h2 : Tbl s
    · have H2 := hide h2
      clear h2
      have HEQ : Hid (r = true ↔ n = m) := hide (by rw [HR.out, ← HZ.out.sz.fl, ← HZ.out.sz.sl]; exact ⟨fun h => h.2.2, fun h => ⟨H1.out, H2.out, h⟩⟩)
      have hfin : r = decide (n = m) := by
        have h := HEQ.out
        cases r <;> simp at h ⊢ <;> exact h
      by_cases hnm : n = m
      · subst hnm
        simp at hfin
        subst hfin
        go_enter Try.func52, Try.ntmps52
        go_wp2_with fail
        refine (l01Table_any _ _ _ f true _ HZ.out.sz.fl (by have := HZ.out.sz.nb; omega) (fun i hi => by have := HZ.out.sz.nr i hi; omega) (HZ.out.fst.later HB0.out) (by simp [H1.out])).mono ?_
        rintro e w1 ⟨rfl, hq1⟩
        have HB1 := hide (HB0.out.trans (hq1.below _))
        have HK1 := hide (HK0.out.later (hq1.below _))
        have k0 := HK1.out.cell 0 _ rfl
        have k1 := HK1.out.cell 1 _ rfl
        clear hq1
        go_wp2_with fail
        clear k0 k1
        refine (l01Table_any _ _ _ s true _ HZ.out.sz.sl (by have := HZ.out.sz.mb; omega) (fun i hi => by have := HZ.out.sz.mr i hi; omega) (HZ.out.snd.later HB1.out) (by simp [H2.out])).mono ?_
        rintro e w2 ⟨rfl, hq2⟩
        have HB2 := hide (HB1.out.trans (hq2.below _))
        have HK2 := hide (HK1.out.later (hq2.below _))
        have k0 := HK2.out.cell 0 _ rfl
        have k1 := HK2.out.cell 1 _ rfl
        have hnb := HZ.out.sz.nb
        clear hq2
        go_wp2_with fail
        go_ret
        exact ⟨rfl, HB2.out⟩
      · have hne : decide ((n : Int) = (m : Int)) = false := by simp; omega
        have hne2 : ((n : Int) == (m : Int)) = false := by simp; omega
        simp [hnm] at hfin
        subst hfin
        clear hnm
        go_enter Try.func52, Try.ntmps52
        go_wp2_with fail
        refine (l01Table_any _ _ _ f true _ HZ.out.sz.fl (by have := HZ.out.sz.nb; omega) (fun i hi => by have := HZ.out.sz.nr i hi; omega) (HZ.out.fst.later HB0.out) (by simp [H1.out])).mono ?_
        rintro e w1 ⟨rfl, hq1⟩
        have HB1 := hide (HB0.out.trans (hq1.below _))
        have HK1 := hide (HK0.out.later (hq1.below _))
        have k0 := HK1.out.cell 0 _ rfl
        have k1 := HK1.out.cell 1 _ rfl
        clear hq1
        go_wp2_with fail
        clear k0 k1
        refine (l01Table_any _ _ _ s true _ HZ.out.sz.sl (by have := HZ.out.sz.mb; omega) (fun i hi => by have := HZ.out.sz.mr i hi; omega) (HZ.out.snd.later HB1.out) (by simp [H2.out])).mono ?_
        rintro e w2 ⟨rfl, hq2⟩
        have HB2 := hide (HB1.out.trans (hq2.below _))
        have HK2 := hide (HK1.out.later (hq2.below _))
        have k0 := HK2.out.cell 0 _ rfl
        have k1 := HK2.out.cell 1 _ rfl
        have hnb := HZ.out.sz.nb
        have hmb := HZ.out.sz.mb
        clear hq2
        go_wp2_with fail
        go_ret
        exact ⟨rfl, HB2.out⟩
    · have hrt : r = false := by
        cases r
        · rfl
        · exact absurd (HR.out.1 rfl).2.1 h2
      have H2 := hide h2
      subst hrt
      clear h2
      go_enter Try.func52, Try.ntmps52
      go_wp2_with fail
      refine (l01Table_any _ _ _ f true _ HZ.out.sz.fl (by have := HZ.out.sz.nb; omega) (fun i hi => by have := HZ.out.sz.nr i hi; omega) (HZ.out.fst.later HB0.out) (by simp [H1.out])).mono ?_
      rintro e w1 ⟨rfl, hq1⟩
      have HB1 := hide (HB0.out.trans (hq1.below _))
      have HK1 := hide (HK0.out.later (hq1.below _))
      have k0 := HK1.out.cell 0 _ rfl
      have k1 := HK1.out.cell 1 _ rfl
      clear hq1
      go_wp2_with fail
      refine (l01Table_any _ _ _ s false _ HZ.out.sz.sl (by have := HZ.out.sz.mb; omega) (fun i hi => by have := HZ.out.sz.mr i hi; omega) (HZ.out.snd.later HB1.out) (by simp [H2.out])).mono ?_
      rintro e w2 ⟨rfl, hq2⟩
      have HB2 := hide (HB1.out.trans (hq2.below _))
      clear hq2
      go_wp2_with fail
      go_ret
      exact ⟨rfl, HB2.out⟩
  · have hrt : r = false := by
      cases r
      · rfl
      · exact absurd (HR.out.1 rfl).1 h1
    have H1 := hide h1
    subst hrt
    clear h1
    go_enter Try.func52, Try.ntmps52
    go_wp2_with fail
    refine (l01Table_any _ _ _ f false _ HZ.out.sz.fl (by have := HZ.out.sz.nb; omega) (fun i hi => by have := HZ.out.sz.nr i hi; omega) (HZ.out.fst.later HB0.out) (by simp [H1.out])).mono ?_
    rintro e w1 ⟨rfl, hq1⟩
    have HB1 := hide (HB0.out.trans (hq1.below _))
    clear hq1
    go_wp2_with fail
    go_ret
    exact ⟨rfl, HB1.out⟩
end Go.Proofs.Ytbhlcfcmjildmaa
namespace Go.Proofs.Ytbhlcfcmjildmaa
open Go Go.RowKit

/-- The cells that are read at two elements of both tables of a pair map. -/
theorem ZArg.reads {K : Nat} {w : World} {A : Option Addr} {n : Nat} {f : List (List Int)} {B : Option Addr} {m : Nat} {s : List (List Int)} (hz : ZArg K w A n f B m s) (hp : PMap f s) {x y : Nat} (hx : x < n) (hy : y < n) :
    ∃ b o b2 o2 bx ox cx by' oy cy, A = some ⟨b, o, none⟩ ∧ B = some ⟨b2, o2, none⟩ ∧ w.cell? ⟨b, o + x, none⟩ = some (.slice (some ⟨bx, ox, none⟩) n cx) ∧ w.cell? ⟨b2, o2 + x, none⟩ = some (.slice (some ⟨by', oy, none⟩) n cy) ∧
      w.cell? ⟨bx, ox + y, none⟩ = some (.int .i64 (ap f x y : Nat)) ∧ w.cell? ⟨by', oy + y, none⟩ = some (.int .i64 (ap s x y : Nat)) ∧ b < w.heap.size ∧ b2 < w.heap.size ∧ bx < w.heap.size ∧ by' < w.heap.size := by
  obtain ⟨b, o, rfl, hb, hc⟩ := hp.1.cells hz.fst hz.sz.fl
  have hm : s.length = n := by rw [← hp.2.2]; exact hz.sz.fl
  obtain ⟨b2, o2, rfl, hb2, hc2⟩ := hp.2.1.cells hz.snd hm
  obtain ⟨bx, ox, cx, h1, h2, h3⟩ := hc x hx
  obtain ⟨by', oy, cy, h4, h5, h6⟩ := hc2 x hx
  exact ⟨b, o, b2, o2, bx, ox, cx, by', oy, cy, rfl, rfl, h1, h4, h3 y hy, h6 y hy, hb, hb2, h2, h5⟩
theorem ZArg.same {K : Nat} {w : World} {A : Option Addr} {n : Nat} {f : List (List Int)} {B : Option Addr} {m : Nat} {s : List (List Int)} (hz : ZArg K w A n f B m s) (hp : PMap f s) : m = n := by
  rw [← hz.sz.sl, ← hp.2.2]; exact hz.sz.fl
theorem ZArg.small {K : Nat} {w : World} {A : Option Addr} {n : Nat} {f : List (List Int)} {B : Option Addr} {m : Nat} {s : List (List Int)} (hz : ZArg K w A n f B m s) (hp : PMap f s) : 1 ≤ n ∧ n ≤ 12 := by
  have h1 := hp.1.1
  have h2 := hp.1.2.1
  have h3 := hz.sz.fl
  omega
theorem PMap.lt1 {f s : List (List Int)} (hp : PMap f s) {n x y : Nat} (hn : f.length = n) (hx : x < n) (hy : y < n) : ap f x y < n := hp.1.ap_lt hn hx hy
theorem PMap.lt2 {f s : List (List Int)} (hp : PMap f s) {n x y : Nat} (hn : f.length = n) (hx : x < n) (hy : y < n) : ap s x y < n := hp.2.1.ap_lt (by rw [← hp.2.2]; exact hn) hx hy
end Go.Proofs.Ytbhlcfcmjildmaa
namespace Go.Proofs.Ytbhlcfcmjildmaa
open Go Go.RowKit
set_option maxHeartbeats 1000000

theorem mapI_any (A : Option Addr) (n c : Nat) (f : List (List Int)) (B : Option Addr) (m d : Nat) (s : List (List Int)) (r : Bool) (w : World) (hz : ZArg 1048576 w A n f B m s) (hr : r = true ↔ PMap f s) :
    Calls Try.prog 62 #[.agg #[.slice A n c, .slice B m d]] w fun e w' => e = .returned (.bool r) ∧ Below w.heap.size w w' := by
  have HZ := hide hz
  have HR := hide hr
  clear hz hr
  have HB0 := hide ((Below.refl _ w).alloc (Nat.le_refl _) (Obj.cells #[Value.slice A n c, Value.slice B m d] 29))
  have HK0 := hide (Blk.new w 29 [.slice A n c, .slice B m d])
  by_cases h1 : Tbl f
  · have H1 := hide h1
    clear h1
    by_cases h2 : Tbl s
    · have H2 := hide h2
      clear h2
      have HEQ : Hid (r = true ↔ n = m) := hide (by rw [HR.out, ← HZ.out.sz.fl, ← HZ.out.sz.sl]; exact ⟨fun h => h.2.2, fun h => ⟨H1.out, H2.out, h⟩⟩)
      have hfin : r = decide (n = m) := by
        have h := HEQ.out
        cases r <;> simp at h ⊢ <;> exact h
      by_cases hnm : n = m
      · subst hnm
        simp at hfin
        subst hfin
        go_enter Try.func62, Try.ntmps62
        go_wp2_with fail
        refine (isTable_any _ _ _ f true _ HZ.out.sz.fl (by have := HZ.out.sz.nb; omega) (fun i hi => by have := HZ.out.sz.nr i hi; omega) (HZ.out.fst.later HB0.out) (by simp [H1.out])).mono ?_
        rintro e w1 ⟨rfl, hq1⟩
        have HB1 := hide (HB0.out.trans (hq1.below _))
        have HK1 := hide (HK0.out.later (hq1.below _))
        have k0 := HK1.out.cell 0 _ rfl
        have k1 := HK1.out.cell 1 _ rfl
        clear hq1
        go_wp2_with fail
        clear k0 k1
        refine (isTable_any _ _ _ s true _ HZ.out.sz.sl (by have := HZ.out.sz.mb; omega) (fun i hi => by have := HZ.out.sz.mr i hi; omega) (HZ.out.snd.later HB1.out) (by simp [H2.out])).mono ?_
        rintro e w2 ⟨rfl, hq2⟩
        have HB2 := hide (HB1.out.trans (hq2.below _))
        have HK2 := hide (HK1.out.later (hq2.below _))
        have k0 := HK2.out.cell 0 _ rfl
        have k1 := HK2.out.cell 1 _ rfl
        have hnb := HZ.out.sz.nb
        clear hq2
        go_wp2_with fail
        go_ret
        exact ⟨rfl, HB2.out⟩
      · have hne : decide ((n : Int) = (m : Int)) = false := by simp; omega
        have hne2 : ((n : Int) == (m : Int)) = false := by simp; omega
        simp [hnm] at hfin
        subst hfin
        clear hnm
        go_enter Try.func62, Try.ntmps62
        go_wp2_with fail
        refine (isTable_any _ _ _ f true _ HZ.out.sz.fl (by have := HZ.out.sz.nb; omega) (fun i hi => by have := HZ.out.sz.nr i hi; omega) (HZ.out.fst.later HB0.out) (by simp [H1.out])).mono ?_
        rintro e w1 ⟨rfl, hq1⟩
        have HB1 := hide (HB0.out.trans (hq1.below _))
        have HK1 := hide (HK0.out.later (hq1.below _))
        have k0 := HK1.out.cell 0 _ rfl
        have k1 := HK1.out.cell 1 _ rfl
        clear hq1
        go_wp2_with fail
        clear k0 k1
        refine (isTable_any _ _ _ s true _ HZ.out.sz.sl (by have := HZ.out.sz.mb; omega) (fun i hi => by have := HZ.out.sz.mr i hi; omega) (HZ.out.snd.later HB1.out) (by simp [H2.out])).mono ?_
        rintro e w2 ⟨rfl, hq2⟩
        have HB2 := hide (HB1.out.trans (hq2.below _))
        have HK2 := hide (HK1.out.later (hq2.below _))
        have k0 := HK2.out.cell 0 _ rfl
        have k1 := HK2.out.cell 1 _ rfl
        have hnb := HZ.out.sz.nb
        have hmb := HZ.out.sz.mb
        clear hq2
        go_wp2_with fail
        go_ret
        exact ⟨rfl, HB2.out⟩
    · have hrt : r = false := by
        cases r
        · rfl
        · exact absurd (HR.out.1 rfl).2.1 h2
      have H2 := hide h2
      subst hrt
      clear h2
      go_enter Try.func62, Try.ntmps62
      go_wp2_with fail
      refine (isTable_any _ _ _ f true _ HZ.out.sz.fl (by have := HZ.out.sz.nb; omega) (fun i hi => by have := HZ.out.sz.nr i hi; omega) (HZ.out.fst.later HB0.out) (by simp [H1.out])).mono ?_
      rintro e w1 ⟨rfl, hq1⟩
      have HB1 := hide (HB0.out.trans (hq1.below _))
      have HK1 := hide (HK0.out.later (hq1.below _))
      have k0 := HK1.out.cell 0 _ rfl
      have k1 := HK1.out.cell 1 _ rfl
      clear hq1
      go_wp2_with fail
      refine (isTable_any _ _ _ s false _ HZ.out.sz.sl (by have := HZ.out.sz.mb; omega) (fun i hi => by have := HZ.out.sz.mr i hi; omega) (HZ.out.snd.later HB1.out) (by simp [H2.out])).mono ?_
      rintro e w2 ⟨rfl, hq2⟩
      have HB2 := hide (HB1.out.trans (hq2.below _))
      clear hq2
      go_wp2_with fail
      go_ret
      exact ⟨rfl, HB2.out⟩
  · have hrt : r = false := by
      cases r
      · rfl
      · exact absurd (HR.out.1 rfl).1 h1
    have H1 := hide h1
    subst hrt
    clear h1
    go_enter Try.func62, Try.ntmps62
    go_wp2_with fail
    refine (isTable_any _ _ _ f false _ HZ.out.sz.fl (by have := HZ.out.sz.nb; omega) (fun i hi => by have := HZ.out.sz.nr i hi; omega) (HZ.out.fst.later HB0.out) (by simp [H1.out])).mono ?_
    rintro e w1 ⟨rfl, hq1⟩
    have HB1 := hide (HB0.out.trans (hq1.below _))
    clear hq1
    go_wp2_with fail
    go_ret
    exact ⟨rfl, HB1.out⟩
end Go.Proofs.Ytbhlcfcmjildmaa
namespace Go.Proofs.Ytbhlcfcmjildmaa
open Go Go.RowKit
set_option maxHeartbeats 1000000

theorem cell_other {w : World} {b o k j : Nat} (h : b ≠ k) (v : Value) : (w.setCell ⟨k, j, none⟩ v).cell? ⟨b, o, none⟩ = w.cell? ⟨b, o, none⟩ :=
  World.cell?_of_block (a := ⟨b, o, none⟩) (Below.heap_setCell w ⟨k, j, none⟩ v b h)

theorem lead_any (A : Option Addr) (n c : Nat) (f : List (List Int)) (B : Option Addr) (m d : Nat) (s : List (List Int)) (x y : Nat) (w : World) (hz : ZArg 1048576 w A n f B m s) (hp : PMap f s) (hx : x < n) (hy : y < n) :
    Calls Try.prog 68 #[.agg #[.slice A n c, .slice B m d], .agg #[.int .i64 x, .int .i64 y]] w fun e w' => e = .returned (.agg #[.int .i64 (ap f x y : Nat), .int .i64 (ap s x y : Nat)]) ∧ Below w.heap.size w w' := by
  obtain ⟨b, o, rfl, hb, hc⟩ := hp.1.cells hz.fst hz.sz.fl
  have hm : s.length = n := by rw [← hp.2.2]; exact hz.sz.fl
  obtain ⟨b2, o2, rfl, hb2, hc2⟩ := hp.2.1.cells hz.snd hm
  obtain ⟨bx, ox, cx, h1, h2, h3⟩ := hc x hx
  obtain ⟨by', oy, cy, h4, h5, h6⟩ := hc2 x hx
  have h7 := h3 y hy
  have h8 := h6 y hy
  have hmn : m = n := by rw [← hz.sz.sl]; exact hm
  subst hmn
  have hnb := hz.sz.nb
  obtain ⟨u, hu⟩ : ∃ u, ap f x y = u := ⟨_, rfl⟩
  obtain ⟨v, hv⟩ : ∃ v, ap s x y = v := ⟨_, rfl⟩
  rw [hu] at h7 ⊢
  rw [hv] at h8 ⊢
  have H1 := hide h1
  have H4 := hide h4
  have H7 := hide h7
  have H8 := hide h8
  clear h1 h3 h4 h6 h7 h8 hc hc2 hu hv hm hz hp
  go_enter Try.func68, Try.ntmps68
  go_wp2_with fail
  refine wp_gen fun w1 hw1 => ?_
  have hbb : Below w.heap.size w w1 := by rw [hw1]; exact (((Below.refl _ _).alloc (Nat.le_refl _) _).alloc (by simp) _).alloc (by simp; omega) _
  have HBB := hide hbb
  have hk0 : Blk w1 w.heap.size 29 [.slice (some ⟨b, o, none⟩) m c, .slice (some ⟨b2, o2, none⟩) m d] := by rw [hw1]; exact ((Blk.new _ _ _).alloc _).alloc _
  have hk1 : Blk w1 (w.heap.size + 1) 84 [.int .i64 x, .int .i64 y] := by rw [hw1]; have h := (Blk.new (w.alloc (Obj.cells #[.slice (some ⟨b, o, none⟩) m c, .slice (some ⟨b2, o2, none⟩) m d] 29)) 84 [.int .i64 x, .int .i64 y]).alloc (Obj.cells #[Value.int IntKind.i64 0, Value.int IntKind.i64 0] 84); simpa using h
  have hk2 : Blk w1 (w.heap.size + 1 + 1) 84 [.int .i64 0, .int .i64 0] := by rw [hw1]; have h := (Blk.new ((w.alloc (Obj.cells #[.slice (some ⟨b, o, none⟩) m c, .slice (some ⟨b2, o2, none⟩) m d] 29)).alloc (Obj.cells #[Value.int IntKind.i64 x, Value.int IntKind.i64 y] 84)) 84 [.int .i64 0, .int .i64 0]); simpa using h
  have HK2 := hide hk2
  have a0 := hk0.cell 0 _ rfl
  have a1 := hk0.cell 1 _ rfl
  have a2 := hk1.cell 0 _ rfl
  have a3 := hk1.cell 1 _ rfl
  have a4 : w1.cell? ⟨b, o + x, none⟩ = some (.slice (some ⟨bx, ox, none⟩) m cx) := (hbb.cell (p := ⟨b, o + x, none⟩) hb).trans H1.out
  have a5 : w1.cell? ⟨b2, o2 + x, none⟩ = some (.slice (some ⟨by', oy, none⟩) m cy) := (hbb.cell (p := ⟨b2, o2 + x, none⟩) hb2).trans H4.out
  have a6 : w1.cell? ⟨bx, ox + y, none⟩ = some (.int .i64 u) := (hbb.cell (p := ⟨bx, ox + y, none⟩) h2).trans H7.out
  have a7 : w1.cell? ⟨by', oy + y, none⟩ = some (.int .i64 v) := (hbb.cell (p := ⟨by', oy + y, none⟩) h5).trans H8.out
  have a8 := hk2.cell 0 _ rfl
  have a9 := hk2.cell 1 _ rfl
  have b0 := hk2.frozen 0
  have b1 := hk2.frozen 1
  have hxz : (x : Int) < m := by omega
  have hyz : (y : Int) < m := by omega
  have hxz0 : (0 : Int) ≤ x := by omega
  have hyz0 : (0 : Int) ≤ y := by omega
  have k1 : w.heap.size + 1 + 1 ≠ w.heap.size := by omega
  have k2 : w.heap.size + 1 + 1 ≠ b := by omega
  have k3 : w.heap.size + 1 + 1 ≠ b2 := by omega
  have k4 : w.heap.size + 1 + 1 ≠ bx := by omega
  have k5 : w.heap.size + 1 + 1 ≠ by' := by omega
  have j1 := k1.symm
  have j2 := k2.symm
  have j3 := k3.symm
  have j4 := k4.symm
  have j5 := k5.symm
  clear hw1 hk0 hk1 hk2 hbb hb hb2 h2 h5
  go_region_held3 (fun w' => w'.cell? ⟨w.heap.size, 0, none⟩ = some (.slice (some ⟨b, o, none⟩) m c) ∧ w'.cell? ⟨w.heap.size, 1, none⟩ = some (.slice (some ⟨b2, o2, none⟩) m d) ∧ w'.cell? ⟨w.heap.size + 1, 0, none⟩ = some (.int .i64 x) ∧ w'.cell? ⟨w.heap.size + 1, 1, none⟩ = some (.int .i64 y) ∧ w'.cell? ⟨b, o + x, none⟩ = some (.slice (some ⟨bx, ox, none⟩) m cx) ∧ w'.cell? ⟨b2, o2 + x, none⟩ = some (.slice (some ⟨by', oy, none⟩) m cy) ∧ w'.cell? ⟨bx, ox + y, none⟩ = some (.int .i64 u) ∧ w'.cell? ⟨by', oy + y, none⟩ = some (.int .i64 v)) (first | exact ⟨a0, a1, a2, a3, a4, a5, a6, a7⟩ | go_keep) (first | fail)
  clear k1 k2 k3 k4 k5 j1 j2 j3 j4 j5 a0 a1 a2 a3 a4 a5 a6 a7 a8 a9 b0 b1
  go_wp2_with fail
  refine bp_gen fun wf hwf => ?_
  have HRF : Blk wf (w.heap.size + 1 + 1) 84 [.int .i64 u, .int .i64 v] := by rw [hwf]; exact ((HK2.out.set 0 _).set 1 _).drew
  have HBF : Below w.heap.size w wf := by rw [hwf]; exact ((HBB.out.setCell (by show w.heap.size ≤ w.heap.size + 1 + 1; omega) _).setCell (by show w.heap.size ≤ w.heap.size + 1 + 1; omega) _).drew
  have q0 := HRF.cell 0 _ rfl
  have q1 := HRF.cell 1 _ rfl
  clear hwf
  exact bodyPost_ret (v := .agg #[.int .i64 u, .int .i64 v]) (by simp [results, Try.results68, go_sem, q0, q1]) rfl ⟨rfl, HBF⟩
end Go.Proofs.Ytbhlcfcmjildmaa
namespace Go.Proofs.Ytbhlcfcmjildmaa
open Go Go.RowKit

/-- As FB, of a call that may begin without a box of its own: all boxes lie below top. -/
structure FC (w wx : World) (top : Nat) (bs : List (Nat × TypeId × List Value)) : Prop where
  below : Below w.heap.size w wx
  blks : ∀ q, q ∈ bs → Blk wx q.1 q.2.1 q.2.2 ∧ q.1 < top
  low : w.heap.size ≤ top
  sz : top ≤ wx.heap.size

section
variable {w wx wy : World} {top : Nat} {bs : List (Nat × TypeId × List Value)}
theorem FC.of (hb : Below w.heap.size w wx) (h : ∀ q, q ∈ bs → Blk wx q.1 q.2.1 q.2.2) : FC w wx wx.heap.size bs :=
  ⟨hb, fun q hq => ⟨h q hq, (h q hq).lt⟩, hb.size, Nat.le_refl _⟩
theorem FC.later (h : FC w wx top bs) (hb : Below wx.heap.size wx wy) : FC w wy top bs :=
  ⟨h.below.trans (hb.mono h.below.size), fun q hq => ⟨(h.blks q hq).1.later hb, (h.blks q hq).2⟩, h.low, Nat.le_trans h.sz hb.size⟩
theorem FC.set (h : FC w wx top bs) {p : Addr} (hp : top ≤ p.block) (v : Value) : FC w (wx.setCell p v) top bs :=
  ⟨h.below.setCell (Nat.le_trans h.low hp) v, fun q hq => ⟨(h.blks q hq).1.far (by have := (h.blks q hq).2; omega) v, (h.blks q hq).2⟩, h.low, by have := h.sz; simp [World.setCell]; omega⟩
theorem FC.push (h : FC w wx top bs) {L : Nat} {t : TypeId} {cs : List Value} (hb : Blk wx L t cs) (hL : top ≤ L) : FC w wx (L + 1) ((L, t, cs) :: bs) :=
  ⟨h.below, fun q hq => by
    rcases List.mem_cons.1 hq with rfl | hq
    · exact ⟨hb, Nat.lt_succ_self _⟩
    · exact ⟨(h.blks q hq).1, by have := (h.blks q hq).2; omega⟩, by have := h.low; omega, hb.lt⟩
theorem FC.new (h : FC w wx top bs) (t : TypeId) (cs : List Value) : FC w (wx.alloc (.cells cs.toArray t)) (wx.heap.size + 1) ((wx.heap.size, t, cs) :: bs) :=
  (h.later ((Below.refl _ _).alloc (Nat.le_refl _) _)).push (Blk.new _ _ _) h.sz
theorem FC.blk (h : FC w wx top bs) {b : Nat} {t : TypeId} {cs : List Value} (hm : (b, t, cs) ∈ bs) : Blk wx b t cs := (h.blks _ hm).1
theorem FC.le (h : FC w wx top bs) {b : Nat} {t : TypeId} {cs : List Value} (hm : (b, t, cs) ∈ bs) : b < top := (h.blks _ hm).2
end
end Go.Proofs.Ytbhlcfcmjildmaa
namespace Go.Proofs.Ytbhlcfcmjildmaa
open Go Go.RowKit

section
variable {ts t tz : TypeId} {B : Nat} {w w' w1 : World} {v v' : Value} {rows : List (List Int)} {vals : List Value} {ob : Nat}

/-- A list of rows that the call builds by append, in cell s of the box ob, whose other cells are cs. -/
structure One (ts t tz : TypeId) (B : Nat) (w : World) (ob s : Nat) (cs : List Value) (v : Value) (rows : List (List Int)) (vals : List Value) : Prop where
  box : Blk w ob tz (cs.set s v)
  low : ob < B
  bsz : B ≤ w.heap.size
  l : LstV ts t B w v rows vals

variable {s : Nat} {cs : List Value}
theorem One.later (h : One ts t tz B w ob s cs v rows vals) (hb : Below w.heap.size w w') : One ts t tz B w' ob s cs v rows vals :=
  ⟨h.box.later hb, h.low, Nat.le_trans h.bsz hb.size, h.l.later hb⟩
theorem One.kept {tmp : Obj} (h : One ts t tz B w ob s cs v rows vals) (hg : (w.alloc tmp).grownBy w1 v.ownBlock) : Blk w1 ob tz (cs.set s v) :=
  (hg.block ob (by have := h.box.lt; simp; omega) (fun e => by
    have := (own_type h.l.own e.symm).2.1
    have := h.low
    omega)).trans (h.box.later ((Below.refl _ _).alloc (Nat.le_refl _) _))
theorem One.push {A : Option Addr} {c : Nat} {r : List Int} {tmp : Obj} (hne : ts ≠ t) (h : One ts t tz B w ob s cs v rows vals) (hA : Obj1 t B w.heap.size w A r)
    (hdis : ∀ (i : Nat) (u : Value) (g : Nat), vals[i]? = some u → u.ownBlock = some g → ∀ a, A = some a → a.block ≠ g)
    (hown : w1.ownsRow B ts 1 v' (rows.length + 1) (vals ++ [.slice A r.length c])) (hg : (w.alloc tmp).grownBy w1 v.ownBlock) :
    One ts t tz B (w1.setCell ⟨ob, s, none⟩ v') ob s cs v' (rows ++ [r]) (vals ++ [.slice A r.length c]) := by
  refine ⟨?_, h.low, by have h1 := hg.size; have h2 := h.bsz; simp at h1; simp [World.setCell]; omega, store_low (h.l.push2 hne hA hdis hown hg) h.low _ _⟩
  have hb1 : Blk w1 ob tz (cs.set s v) := h.kept hg
  have h2 := hb1.set s v'
  rw [List.set_set] at h2
  exact h2
theorem One.start (w : World) (ts t tz : TypeId) (hb : Blk w ob tz (cs.set s (.slice none 0 0))) (hB : ob < B) (hw : B ≤ w.heap.size) : One ts t tz B w ob s cs (.slice none 0 0) [] [] :=
  ⟨hb, hB, hw, LstV.nil _ _ _ _⟩
theorem One.frame {tmp : Obj} (h : One ts t tz B w ob s cs v rows vals) (hg : (w.alloc tmp).grownBy w1 v.ownBlock) (u : Value) {k : Nat} (hk : k < B) (hne : k ≠ ob) (hkw : k < w.heap.size) : (w1.setCell ⟨ob, s, none⟩ u).heap[k]? = w.heap[k]? :=
  (Below.heap_setCell w1 ⟨ob, s, none⟩ u k hne).trans ((hg.block k (by simp; omega) (fun e => by
    have := (own_type h.l.own e.symm).2.1
    omega)).trans (((Below.refl w.heap.size w).alloc (Nat.le_refl _) tmp).block k hkw))
theorem One.below {tmp : Obj} {b0 : Nat} {w0 : World} (h : One ts t tz B w ob s cs v rows vals) (hg : (w.alloc tmp).grownBy w1 v.ownBlock) (u : Value) (hb : Below b0 w0 w) (h0 : b0 ≤ ob) : Below b0 w0 (w1.setCell ⟨ob, s, none⟩ u) :=
  ((hb.alloc (by have := h.box.lt; omega) tmp).grown hg (by have := h.box.lt; simp; omega) (fun g e => by
    have := (own_type h.l.own e).2.1
    have := h.low
    omega)).setCell (p := ⟨ob, s, none⟩) h0 u
/-- A row that a call has made behind the world w0, in which the list lay already, is appended and stored. -/
theorem One.add {w0 : World} {A : Option Addr} {c k x gg cap : Nat} {r : List Int} {tmp : Obj} {lo : Nat} (hne : ts ≠ t) (h0 : One ts t tz B w0 ob s cs v rows vals) (h : One ts t tz B w ob s cs v rows vals) (hlo : w0.heap.size ≤ lo) (hA : Obj1 t lo w.heap.size w A r) (hl : rows.length = x) (hr : r.length = k)
    (hown : w1.ownsRow B ts 1 (.slice (some ⟨gg, 0, none⟩) (x + 1) cap) (x + 1) (vals ++ [.slice A k c])) (hg : (w.alloc tmp).grownBy w1 v.ownBlock) :
    One ts t tz B (w1.setCell ⟨ob, s, none⟩ (.slice (some ⟨gg, 0, none⟩) (x + 1) cap)) ob s cs (.slice (some ⟨gg, 0, none⟩) (x + 1) cap) (rows ++ [r]) (vals ++ [.slice A k c]) := by
  have hB := h0.bsz
  subst hr
  subst hl
  refine h.push hne (hA.mono (by omega) (Nat.le_refl _)) (fun i u g hu hug a ha => ?_) hown hg
  have h1 := h0.l.low i u g hu hug
  have h2 := (hA.bounds a ha).1
  omega
end

/-- The table of a result is laid into its box. -/
theorem kend {ts t tz : TypeId} {w w3 wf : World} {r lo hi : Nat} {A : Option Addr} {n c : Nat} {f : List (List Int)} {u : Value} (hwf : wf = w3.setCell ⟨r, 0, none⟩ (.slice A n c)) (hr : Blk w3 r tz [u]) (hr0 : w.heap.size ≤ r) (hb : Below w.heap.size w w3) (ho : Obj2 ts t lo hi w3 A f) (hlo : w.heap.size ≤ lo) (hrl : r < lo) (hhi : hi ≤ w3.heap.size) :
    wf.cell? ⟨r, 0, none⟩ = some (.slice A n c) ∧ Below w.heap.size w wf ∧ Obj2 ts t w.heap.size wf.heap.size wf A f := by
  have hR : Blk wf r tz [.slice A n c] := by rw [hwf]; exact hr.set 0 _
  refine ⟨hR.cell 0 _ rfl, ?_, ?_⟩
  · rw [hwf]; exact hb.setCell (p := ⟨r, 0, none⟩) hr0 _
  · rw [hwf]; exact (ho.set (p := ⟨r, 0, none⟩) (.inl hrl) _).mono hlo (by simp [World.setCell]; exact hhi)
end Go.Proofs.Ytbhlcfcmjildmaa
namespace Go.Proofs.Ytbhlcfcmjildmaa
open Go Go.RowKit Go.Sort Go.Lib Go.Shelf
set_option maxHeartbeats 2000000
/-- slices.SortFunc by slices.Compare over different rows of one length that lie in memory of their own. -/
theorem sortRows_any (n : Nat) (B : Nat) (v : Value) (rows : List (List Int)) (vals : List Value) (w : World) (hb : n ≤ 1048576) (hr0 : 0 < rows.length) (hrb : rows.length ≤ 1048576) (hls : ∀ i, i < rows.length → (rows.getD i []).length = n) (hnd : rows.Nodup) (hB : B ≤ w.heap.size) (h : LstV 26 2 B w v rows vals) :
    Calls Try.prog 75 #[v, .func (.func 76) #[] #[]] w fun e w' => e = .returned (.tuple #[]) ∧ Go.RowKit.Below B w w' ∧ ∃ rows' vals', LstV 26 2 B w' v rows' vals' ∧ Asc rows' ∧ rows'.length = rows.length ∧ ∀ x, x ∈ rows' ↔ x ∈ rows := by
  obtain ⟨M, hM⟩ : ∃ M, rows.length = M + 1 := ⟨rows.length - 1, by omega⟩
  have hvl : vals.length = M + 1 := by rw [ownsRow_len h.own, hM]
  rcases h.own.2 with ⟨_, hz⟩ | ⟨g, cap, cur, rfl, hBg, hh, hcap, hmx, hsz, htk⟩
  · omega
  · have hgl : g < w.heap.size := (Array.getElem?_eq_some_iff.1 hh).1
    let R : Fin (M + 1) → List Int := fun i => rows.getD i.val []
    let V : Fin (M + 1) → Value := fun i => vals.getD i.val (.slice none 0 0)
    have hV : ∀ i : Fin (M + 1), vals[i.val]? = some (V i) := fun i => by
      have : i.val < vals.length := by omega
      simp [V, this]
    have hrow : ∀ i : Fin (M + 1), ∃ A c, V i = .slice A n c ∧ Obj1 2 B w.heap.size w A (R i) := fun i => by
      obtain ⟨A, c, e1, e2⟩ := h.row i.val (by omega)
      rw [hV i] at e1
      rw [hls i.val (by omega)] at e1
      exact ⟨A, c, Option.some.inj e1, e2⟩
    have hone : OneCell V := fun i => by
      obtain ⟨A, c, e, _⟩ := hrow i
      rw [e]; rfl
    have hinj : ∀ x y, R x = R y → x = y := fun x y e => by
      have h1 : x.val < rows.length := by omega
      have h2 : y.val < rows.length := by omega
      have e2 : rows[x.val] = rows[y.val] := by simpa [R, h1, h2] using e
      exact Fin.ext ((List.getElem_inj (h₀ := h1) (h₁ := h2) hnd).1 e2)
    have hcur : ∀ i : Fin (M + 1), cur[i.val]? = some (V i) := fun i => by
      have h5 := hV i
      rw [← htk, List.getElem?_take, if_pos (by omega)] at h5
      simpa using h5
    have hts : (26 : TypeId) ≠ 2 := by decide
    have hkeep : ∀ (k : Nat) (d : Array (Fin (M + 1))) (os : Array Obj), KeepT 2 w (sortWorld V w g 0 k d os) := fun k d os => sortWorld_keep V w g k d os hts hh
    have hdsz : (Array.ofFn (n := M + 1) id).size = M + 1 := by simp
    have hH : Holds V w g 0 (Array.ofFn (n := M + 1) id) := fun j hj => by
      rw [hdsz] at hj
      have e : (Array.ofFn (n := M + 1) id)[j]! = ⟨j, hj⟩ := by
        rw [getElem!_pos _ j (by simpa using hj)]
        simp
      rw [e, Nat.zero_add]
      exact ⟨by rw [cell_of_row w g j cur 26 (0, 0) hh]; exact hcur ⟨j, hj⟩, by simp [World.frozen?, hh]⟩
    have hcmp : CmpLays1 Try.prog 76 #[] V (fun i j => cmpW (R i) (R j)) g 0 (Array.ofFn (n := M + 1) id).size w := fun m os dk _ x y => by
      obtain ⟨A, c, e1, o1⟩ := hrow x
      obtain ⟨A2, c2, e2, o2⟩ := hrow y
      have hx := ((hkeep m dk os).obj o1).rd
      have hy := ((hkeep m dk os).obj o2).rd
      have hc := cmpRow_any n A A2 c c2 (R x) (R y) (sortWorld V w g 0 m dk os) (hls x.val (by omega)) (hls y.val (by omega)) hb hx hy
      rw [e1, e2]
      exact hc.mono fun e w' hh2 => ⟨hh2.1, 0, #[], by rw [hh2.2, grow_empty]; rfl⟩
    have hS := Any.slices_SortFunc_total Try.sortR V hone (fun i j => cmpW (R i) (R j)) (rowSwo R) 76 #[] g 0 cap (Array.ofFn (n := M + 1) id) w (enters_of Try.func76 (by kernel_rfl) rfl) hcmp hH hgl (by rw [hdsz]; omega) (rowTot R hinj)
    rw [hdsz] at hS
    change Calls Try.prog 75 _ _ _ at hS
    rw [hM]
    refine hS.mono ?_
    rintro e w' ⟨rfl, k, os, hw'⟩
    have hsrt : ((Array.ofFn (n := M + 1) id).toList.mergeSort fun x y => !(ltOf (fun i j => cmpW (R i) (R j))) y x) = srtI R := rfl
    rw [hsrt] at hw'
    have hK := hkeep k (srtI R).toArray os
    rw [← hw'] at hK
    have hlow : Go.RowKit.Below B w w' := by rw [hw']; exact sortWorld_low V w g k _ os B hBg hB
    have htop : w'.heap[g]? = some (.cells (putCells V 0 (srtI R).toArray cur) 26 (0, 0)) := by rw [hw']; exact sortWorld_top V w g k _ os cur _ _ hh
    have hlen := srtI_len R
    have hnds := srtI_nd R
    refine ⟨rfl, hlow, (srtI R).map R, (srtI R).map V, ⟨⟨by simp [hlen], .inr ⟨g, cap, _, by rw [List.length_map, hlen], hBg, htop, ?_, hmx, ?_, ?_⟩⟩, fun i hi => ?_, fun i j u u' g' hij hu hu' hg' => ?_⟩, srtI_asc R hinj, by simp [hlen], fun x => ?_⟩
    · simp [hlen]; omega
    · simp [putCells, hsz]
    · apply List.ext_getElem?
      intro j
      rw [List.getElem?_take]
      by_cases hj : j < M + 1
      · have hj2 : j < cur.size := by omega
        have e1 : j < ((srtI R).map R).length * 1 := by simp [hlen]; omega
        rw [if_pos e1]
        have hjs : j < (srtI R).length := by omega
        simp only [putCells, Array.getElem?_toList, Array.getElem?_mapIdx, List.getElem?_map]
        rw [Array.getElem?_eq_getElem hj2, List.getElem?_eq_getElem hjs]
        simp [hlen, hj]
      · have e1 : ¬ j < ((srtI R).map R).length * 1 := by simp [hlen]; omega
        rw [if_neg e1, List.getElem?_eq_none (by simp [hlen]; omega)]
    · have hi2 : i < (srtI R).length := by simpa using hi
      obtain ⟨A, c, e1, o1⟩ := hrow (srtI R)[i]
      have e2 : ((srtI R).map R).getD i [] = R (srtI R)[i] := by simp [hi2]
      refine ⟨A, c, ?_, ?_⟩
      · rw [List.getElem?_map, List.getElem?_eq_getElem hi2, e2]
        show some (V (srtI R)[i]) = _
        rw [e1, show (R (srtI R)[i]).length = n from hls _ (by omega)]
      · rw [e2]
        exact (hK.obj o1).mono (Nat.le_refl _) hlow.size
    · have hj2 : j < (srtI R).length := by have := (List.getElem?_eq_some_iff.1 hu').1; simpa using this
      have hi2 : i < (srtI R).length := by omega
      rw [List.getElem?_map, List.getElem?_eq_getElem hi2] at hu
      rw [List.getElem?_map, List.getElem?_eq_getElem hj2] at hu'
      have hu1 : V (srtI R)[i] = u := Option.some.inj hu
      have hu2 : V (srtI R)[j] = u' := Option.some.inj hu'
      have hne : (srtI R)[i] ≠ (srtI R)[j] := fun e => by
        have := (List.getElem_inj (h₀ := hi2) (h₁ := hj2) hnds).1 e
        omega
      have hne2 : (srtI R)[i].val ≠ (srtI R)[j].val := fun e => hne (Fin.ext e)
      intro e
      rcases Nat.lt_or_gt_of_ne hne2 with hlt | hlt
      · exact h.ne _ _ u u' g' hlt (by rw [hV, hu1]) (by rw [hV, hu2]) hg' e
      · exact h.ne _ _ u' u g' hlt (by rw [hV, hu2]) (by rw [hV, hu1]) e hg'
    · constructor
      · intro hx
        obtain ⟨i, _, rfl⟩ := List.mem_map.1 hx
        have : i.val < rows.length := by omega
        simp [R, this]
      · intro hx
        obtain ⟨j, hj, rfl⟩ := List.getElem_of_mem hx
        refine List.mem_map.2 ⟨⟨j, by omega⟩, srtI_mem R _, ?_⟩
        simp [R, hj]
end Go.Proofs.Ytbhlcfcmjildmaa
namespace Go.Proofs.Ytbhlcfcmjildmaa
open Go Go.RowKit
set_option maxHeartbeats 4000000
theorem half (lo hi : Nat) : ((lo : Int) + (hi : Int)).tdiv 2 = (((lo + hi) / 2 : Nat) : Int) := by
  rw [Int.tdiv_eq_ediv_of_nonneg (by omega)]; omega
end Go.Proofs.Ytbhlcfcmjildmaa
