import Derived.Test.YtbhlcfcmjildmaaGc
import Derived.Test.YtbhlcfcmjildmaaGd
import Derived.Test.YtbhlcfcmjildmaaGe
import Derived.Test.YtbhlcfcmjildmaaGa
import Derived.Test.YtbhlcfcmjildmaaProg
import Derived.Test.YtbhlcfcmjildmaaGf
import Derived.OwnWalk
import Derived.Deep.AppendLies
import Derived.Shelf.Abstract
import Derived.Shelf.Lay
namespace Go.Proofs.Ytbhlcfcmjildmaa
open Go Go.RowKit
set_option maxHeartbeats 2000000

theorem o2Info2q : (Try.prog.info? 26).map (fun i => (i.zero, i.size, i.bytes)) = some (some (.slice none 0 0), 1, 24) := by kernel_rfl

/-- Each slice of a list has a block of its own and room for its elements. -/
def CapsV (vals : List Value) : Prop := ∀ (i : Nat) (A : Option Addr) (l c : Nat), vals[i]? = some (.slice A l c) → l ≤ c ∧ ∃ g, A = some ⟨g, 0, none⟩
theorem CapsV.nil : CapsV [] := fun i A l c h => by simp at h
theorem CapsV.push {vals : List Value} {A : Option Addr} {l c : Nat} (h : CapsV vals) (hlc : l ≤ c ∧ ∃ g, A = some ⟨g, 0, none⟩) : CapsV (vals ++ [.slice A l c]) := by
  intro i A' l' c' hi
  by_cases e : i < vals.length
  · rw [List.getElem?_append_left e] at hi
    exact h i A' l' c' hi
  · have hlt := (List.getElem?_eq_some_iff.1 hi).1
    simp at hlt
    have e2 : i = vals.length := by omega
    subst e2
    rw [List.getElem?_append_right (by omega)] at hi
    simp at hi
    obtain ⟨rfl, rfl, rfl⟩ := hi
    exact hlc
theorem own_cap {B n c : Nat} {A : Option Addr} {t : TypeId} {w : World} {xs : List Value} (h0 : 0 < n) (h : w.ownsRow B t 1 (.slice A n c) n xs) : n ≤ c ∧ ∃ g, A = some ⟨g, 0, none⟩ := by
  rcases h.2 with ⟨h1, h2⟩ | ⟨g, cap, cur, h1, _, _, h2, _⟩
  · omega
  · injection h1 with h1 _ h3
    exact ⟨by omega, g, h1⟩
theorem own2c_any (A : Option Addr) (n c q : Nat) (rows : List (List Int)) (w : World)
    (hn : rows.length = n) (h1 : 1 ≤ n) (hb : n ≤ 1048576) (hq1 : 1 ≤ q) (hqb : q ≤ 1048576) (hbs : ∀ i, i < rows.length → (rows.getD i []).length = q) (hr : Rd2 w A rows) :
    Calls Try.prog 61 #[.slice A n c] w fun e w' => ∃ v vals, e = .returned v ∧ Below w.heap.size w w' ∧ LstV 26 2 w.heap.size w' v rows vals ∧ CapsV vals := by
  have HN := hide hn
  clear hn
  obtain ⟨i0, hi, hz0, hz1, hz2⟩ := info_parts o2Info2q
  go_enter Try.func61, Try.ntmps61
  go_wp2_with fail
  go_loopw [3, 4] (fun v i wr => ∃ (k : Nat) (vals : List Value), k ≤ n ∧ i = .int .i64 k ∧ Below w.heap.size w wr ∧ LstV 26 2 w.heap.size wr v (rows.take k) vals ∧ w.heap.size ≤ wr.heap.size ∧ CapsV vals) (fun _ i _ => n - (intOf i).toNat)
  case atStart => exact ⟨0, [], Nat.zero_le _, rfl, (Below.refl _ _).alloc (Nat.le_refl _) _, by simpa using LstV.start w _ _, by simp, CapsV.nil⟩
  case round =>
    obtain ⟨k, vals, hk, rfl, hbe, hlst, hsz, hcv⟩ := hrel
    have HCV := hide hcv
    have HB := hide hbe
    have HL := hide hlst
    clear hbe hlst hcv
    by_cases hlt : k < n
    · have hltz : (k : Int) < n := by omega
      obtain ⟨b, o, rfl, hbw, hc⟩ := hr (by have := HN.out; omega)
      obtain ⟨Ax, cx, hcell, hrd⟩ := hc k (by have := HN.out; omega)
      have hl := hbs k (by have := HN.out; omega)
      obtain ⟨r, hx'⟩ : ∃ r, r = rows.getD k [] := ⟨_, rfl⟩
      rw [← hx'] at hcell hrd hl
      rw [hl] at hcell
      have hcell' : wr.cell? ⟨b, o + k, none⟩ = some (.slice Ax q cx) := (HB.out.cell (p := ⟨b, o + k, none⟩) hbw).trans hcell
      have HX := hide hx'
      have HLL := hide hl
      obtain ⟨b2, o2, rfl, hbw2, hc2⟩ := hrd (by have := HLL.out; omega)
      have HC2 := hide hc2
      clear hx' hc hl hcell hbs hc2 hrd
      go_wp2_with fail
      refine (own_any b2 o2 q cx r _ HLL.out hqb (by have := HB.out.size; omega) (fun i hi => (HB.out.cell (p := ⟨b2, o2 + i, none⟩) hbw2).trans (HC2.out i hi))).mono ?_
      rintro e w2 ⟨v2, rfl, hb2, how2⟩
      have HB2 := hide hb2
      have HOW2 := hide how2
      clear hb2 how2
      obtain ⟨A4, c4, hv4, hres4⟩ := own_shape HOW2.out
      rw [← HLL.out] at hv4
      subst hv4
      have HC4 : Hid (r.length ≤ c4 ∧ ∃ g, A4 = some ⟨g, 0, none⟩) := hide (own_cap (by have := HLL.out; omega) (by have h := HOW2.out; rw [← HLL.out] at h; exact h))
      have HR4 := hide hres4.obj
      have hs4 := HB2.out.size
      have hlen : (ints r).length = q := by rw [ints_length]; exact HLL.out
      clear hres4
      have hlt0 : (rows.take k).length = k := by have := HN.out; simp; omega
      have HLT := hide hlt0
      have hown : w2.ownsRow w.heap.size 26 1 u3 k vals := by have := (HL.out.later HB2.out).own; rwa [hlt0] at this
      have HO := hide hown
      clear hown hlt0 hlen
      go_wp2_with (at_builtin; refine wpList_append_own _ rfl _ _ 22 rfl w.heap.size 26 i0 (.slice none 0 0) 1 24 Try.underlying22 hi hz0 hz1 hz2 rfl (by decide) _ _ _ rfl (HO.out.alloc _) ⟨w2.heap.size, 0, none⟩ 1 1 [.slice A4 r.length c4] rfl rfl ?c1 ?c2 ?c3 ?c4 ?c5 ?_)
      case c1 => exact ne_new
      case c2 => intro u hu; simp at hu; subst hu; rfl
      case c3 => unfold maxLen; omega
      case c4 => omega
      case c5 => simp; omega
      intro v' w3 hown' hgrow _
      have HO' := hide hown'
      have HG := hide hgrow
      clear hown' hgrow
      go_wp2_with fail
      go_roundw
      case rel =>
        have hB3 : Below w.heap.size w w3 := ((HB.out.trans (HB2.out.mono hsz)).alloc (by omega) _).grown HG.out (by simp; omega) (fun g hg => ((HO.out.alloc (.cells #[.slice A4 r.length c4] 26)).lt g hg).1)
        have hpush := LstV.push (tmp := .cells #[.slice A4 r.length c4] 26) (A := A4) (c := c4) (r := r) (w1 := w3) (v' := v') (by decide) hsz HL.out HB2.out HR4.out (by rw [HLT.out]; exact HO'.out) HG.out
        have e : rows.take (k + 1) = rows.take k ++ [r] := by
          have hl : k < rows.length := by have := HN.out; omega
          rw [List.take_succ_eq_append_getElem hl, HX.out]
          simp [hl]
        refine ⟨k + 1, vals ++ [.slice A4 r.length c4], by omega, by go_num, hB3, by rw [e]; exact hpush, by have := hB3.size; omega, HCV.out.push HC4.out⟩
      case measure => simp [intOf]; omega
    · have hkn : k = n := by omega
      subst hkn
      go_wp2_with fail
      go_ret
      have e : rows.take k = rows := List.take_of_length_le (by have := HN.out; omega)
      have h := HL.out
      rw [e] at h
      exact ⟨_, _, rfl, HB.out, h, HCV.out⟩
theorem own2v_any (A : Option Addr) (n c q : Nat) (rows : List (List Int)) (w : World)
    (hn : rows.length = n) (h1 : 1 ≤ n) (hb : n ≤ 1048576) (hq1 : 1 ≤ q) (hqb : q ≤ 1048576) (hbs : ∀ i, i < rows.length → (rows.getD i []).length = q) (hr : Rd2 w A rows) :
    Calls Try.prog 61 #[.slice A n c] w fun e w' => ∃ v vals, e = .returned v ∧ Below w.heap.size w w' ∧ LstV 26 2 w.heap.size w' v rows vals := by
  refine (own2c_any A n c q rows w hn h1 hb hq1 hqb hbs hr).mono ?_
  rintro e w2 ⟨v, vals, rfl, hb2, hl, _⟩
  exact ⟨v, vals, rfl, hb2, hl⟩
theorem own2q_any (A : Option Addr) (n c q : Nat) (rows : List (List Int)) (w : World)
    (hn : rows.length = n) (h1 : 1 ≤ n) (hb : n ≤ 1048576) (hq1 : 1 ≤ q) (hqb : q ≤ 1048576) (hbs : ∀ i, i < rows.length → (rows.getD i []).length = q) (hr : Rd2 w A rows) :
    Calls Try.prog 61 #[.slice A n c] w fun e w' => ∃ A' c', e = .returned (.slice A' n c') ∧ Below w.heap.size w w' ∧ Obj2 26 2 w.heap.size w'.heap.size w' A' rows := by
  refine (own2v_any A n c q rows w hn h1 hb hq1 hqb hbs hr).mono ?_
  rintro e w2 ⟨v, vals, rfl, hb2, hl⟩
  obtain ⟨A', c', hv, hobj⟩ := hl.shape
  exact ⟨A', c', by rw [← hn, ← hv], hb2, hobj⟩
end Go.Proofs.Ytbhlcfcmjildmaa
namespace Go.Proofs.Ytbhlcfcmjildmaa
open Go Go.RowKit
section
variable {t : TypeId} {w w' : World} {g : Nat} {xs : List Int}
theorem own_read {B n c : Nat} {A : Option Addr} (h : w.ownsRow B t 1 (.slice A n c) n (ints xs)) (hn : 0 < n) : ∃ g, A = some ⟨g, 0, none⟩ ∧ OwnB t w g xs := by
  have hl := h.1
  rw [ints_length] at hl
  rcases ownB_of_ownsRow h with ⟨_, h0⟩ | ⟨g, h1, _, h2⟩
  · subst h0; simp at hl; omega
  · exact ⟨g, h1, h2⟩
theorem OwnB.keep (h : OwnB t w g xs) (hb : Below w.heap.size w w') : OwnB t w' g xs := h.later hb h.lt
theorem OwnB.cell1 (h : OwnB t w g xs) (i : Nat) (hi : i < xs.length) {v : Int} (hv : xs.getD i 0 = v) : w.cell? ⟨g, i, none⟩ = some (.int .i64 v) := by rw [← hv]; exact h.cell hi
end
theorem ints_snoc (xs : List Int) (x : Int) : ints (xs ++ [x]) = ints xs ++ [.int .i64 x] := by simp [ints]
end Go.Proofs.Ytbhlcfcmjildmaa
namespace Go.Proofs.Ytbhlcfcmjildmaa
open Go Go.RowKit
set_option maxHeartbeats 1000000

theorem paInfo : (Try.prog.info? 84).map (fun i => (i.zero, i.size, i.bytes)) = some (some (.agg #[.int .i64 0, .int .i64 0]), 2, 16) := by kernel_rfl

/-- The cells of the first k pairs. -/
def pcells (n k : Nat) : List Value := (List.range k).flatMap fun i => [.int .i64 ((i / n : Nat) : Int), .int .i64 ((i % n : Nat) : Int)]
theorem pcells_succ (n k : Nat) : pcells n (k + 1) = pcells n k ++ [.int .i64 ((k / n : Nat) : Int), .int .i64 ((k % n : Nat) : Int)] := by
  unfold pcells
  rw [List.range_succ, List.flatMap_append]
  simp
theorem pcells_length (n k : Nat) : (pcells n k).length = k * 2 := by
  induction k with
  | zero => rfl
  | succ k ih => rw [pcells_succ, List.length_append, ih]; simp; omega
theorem pcells_at (n k i : Nat) (h : i < k) : (pcells n k)[i * 2]? = some (.int .i64 ((i / n : Nat) : Int)) ∧ (pcells n k)[i * 2 + 1]? = some (.int .i64 ((i % n : Nat) : Int)) := by
  induction k with
  | zero => omega
  | succ k ih =>
    have hl := pcells_length n k
    rw [pcells_succ]
    by_cases e : i < k
    · rw [List.getElem?_append_left (by omega), List.getElem?_append_left (by omega)]
      exact ih e
    · have e2 : i = k := by omega
      subst e2
      rw [List.getElem?_append_right (by omega), List.getElem?_append_right (by omega), hl]
      simp
/-- Block g holds all pairs of n elements. -/
def PairsAt (w : World) (g n : Nat) : Prop := g < w.heap.size ∧ ∀ k, k < n * n → w.cell? ⟨g, k * 2, none⟩ = some (.int .i64 ((k / n : Nat) : Int)) ∧ w.cell? ⟨g, k * 2 + 1, none⟩ = some (.int .i64 ((k % n : Nat) : Int))
theorem PairsAt.later {w w' : World} {g n : Nat} (h : PairsAt w g n) (hb : Below w.heap.size w w') : PairsAt w' g n :=
  ⟨Nat.lt_of_lt_of_le h.1 hb.size, fun k hk => ⟨(hb.cell (p := ⟨g, k * 2, none⟩) h.1).trans (h.2 k hk).1, (hb.cell (p := ⟨g, k * 2 + 1, none⟩) h.1).trans (h.2 k hk).2⟩⟩
theorem PairsAt.touch {w w' : World} {g n lo hi : Nat} (h : PairsAt w g n) (ht : Touch lo hi w w') (hs : g < lo ∨ hi ≤ g) : PairsAt w' g n :=
  ⟨Nat.lt_of_lt_of_le h.1 ht.size, fun k hk => ⟨(World.cell?_of_block (a := ⟨g, k * 2, none⟩) (ht.block g h.1 hs)).trans (h.2 k hk).1, (World.cell?_of_block (a := ⟨g, k * 2 + 1, none⟩) (ht.block g h.1 hs)).trans (h.2 k hk).2⟩⟩
theorem pairs_of_owns {w : World} {B g n N : Nat} {t : TypeId} (hN : n * n = N) (h : w.ownsRow B t 2 (.slice (some ⟨g, 0, none⟩) N N) N (pcells n N)) : PairsAt w g n := by
  obtain ⟨h1, h2⟩ := h
  rcases h2 with ⟨hv, _⟩ | ⟨g', cap, cur, hv, hg, hh, a1, a2, a3, a4⟩
  · cases hv
  · cases hv
    refine ⟨(Array.getElem?_eq_some_iff.1 hh).1, fun k hk => ?_⟩
    have hp := pcells_at n N k (by omega)
    rw [← a4, List.getElem?_take, List.getElem?_take, if_pos (by omega), if_pos (by omega)] at hp
    rw [cell_of_row w g (k * 2) cur t (0, 0) hh, cell_of_row w g (k * 2 + 1) cur t (0, 0) hh]
    simpa using hp

set_option maxRecDepth 100000 in
theorem pairsOf_any (n N : Nat) (w : World) (h1 : 1 ≤ n) (h12 : n ≤ 12) (hN : n * n = N) :
    Calls Try.prog 67 #[.int .i64 n] w fun e w' => ∃ g, e = .returned (.slice (some ⟨g, 0, none⟩) N N) ∧ Below w.heap.size w w' ∧ w.heap.size ≤ g ∧ PairsAt w' g n := by
  obtain ⟨i0, hi, hz0, hz1, hz2⟩ := info_parts paInfo
  have hsq : (n : Int) * (n : Int) = (N : Int) := by rw [← hN]; simp
  have hN144 : N ≤ 144 := by rw [← hN]; exact sq_le n h12
  have HN := hide hN
  have hby : i0.bytes = 16 := hz2
  clear hN
  go_enter Try.func67, Try.ntmps67
  go_wp2_with (refine wpList_make_own _ rfl _ _ 87 rfl w.heap.size 84 i0 (.agg #[.int .i64 0, .int .i64 0]) 2 Try.underlying87 hi hz0 hz1 .i64 .i64 (N : Int) N rfl rfl rfl (by rw [hby]; omega) (by unfold maxLen; omega) (Nat.le_refl _) ?_; intro w1 hown1 hgrow1)
  have HO1 := hide hown1
  have HB1 : Hid (Below w.heap.size w w1) := hide ((Below.refl _ w).grown hgrow1 (Nat.le_refl _) (fun g hg => by cases hg))
  clear hown1 hgrow1
  go_wp2_with fail
  have hwl : w.heap.size < w1.heap.size := by have h := HO1.out.2; rcases h with ⟨h, _⟩ | ⟨g, cap, cur, hv, _, hh, _⟩; · cases h
                                              · cases hv; exact (Array.getElem?_eq_some_iff.1 hh).1
  go_loopw [3, 11] (fun v i wr => ∃ x q : Nat, x ≤ n ∧ q = x * n ∧ i = .int .i64 x ∧ v = .slice (some ⟨w.heap.size, 0, none⟩) q N ∧ Below w.heap.size w wr ∧ wr.ownsRow w.heap.size 84 2 (.slice (some ⟨w.heap.size, 0, none⟩) q N) q (pcells n q)) (fun _ i _ => n - (intOf i).toNat)
  case atStart => exact ⟨0, 0, Nat.zero_le _, by simp, rfl, rfl, HB1.out, HO1.out⟩
  case round =>
    obtain ⟨x, q, hx, hq, rfl, rfl, hbe, hown⟩ := hrel
    have HQ := hide hq
    have HB := hide hbe
    have HO := hide hown
    clear hq hbe hown
    by_cases hlt : x < n
    · have hxz : (x : Int) < n := by omega
      go_wp2_with fail
      obtain ⟨wo, rfl⟩ : ∃ wo : World, wo = wr := ⟨_, rfl⟩
      go_loopw [3, 15] (fun v i wi => ∃ y p : Nat, y ≤ n ∧ p = x * n + y ∧ i = .int .i64 y ∧ v = .slice (some ⟨w.heap.size, 0, none⟩) p N ∧ Below w.heap.size w wi ∧ wi.ownsRow w.heap.size 84 2 (.slice (some ⟨w.heap.size, 0, none⟩) p N) p (pcells n p)) (fun _ i _ => n - (intOf i).toNat)
      case atStart => exact ⟨0, q, Nat.zero_le _, by rw [HQ.out]; rfl, rfl, rfl, HB.out, HO.out⟩
      case round =>
        obtain ⟨y, p, hy, hp, rfl, rfl, hbi, hoi⟩ := hrel
        have HP := hide hp
        have HBI := hide hbi
        have HOI := hide hoi
        clear hp hbi hoi
        by_cases hlty : y < n
        · have hyz : (y : Int) < n := by omega
          have hpN : p + 1 ≤ N := by have h := pair_lt n x y hlt hlty; rw [HN.out, ← HP.out] at h; omega
          go_wp2_with (at_builtin; refine wpList_append_fits _ rfl _ _ 87 rfl w.heap.size 84 i0 2 Try.underlying87 hi hz1 w.heap.size p N (pcells n p) rfl (HOI.out.alloc _) ⟨wr.heap.size, 0, none⟩ 1 1 [.int .i64 x, .int .i64 y] rfl rfl (World.news_of_block (cs := #[.int .i64 x, .int .i64 y]) (t := 84) (fr := (0, 0)) (heap_alloc_new wr _)) (by simp [Value.oneCell']) hpN ?_)
          intro w3 hown3 hgrow3
          have hb3 : Below w.heap.size w w3 := (HBI.out.alloc HBI.out.size _).grown hgrow3 (by have := HBI.out.size; simp; omega) (fun g hg => by cases hg; exact Nat.le_refl _)
          have HB3 := hide hb3
          have HO3 := hide hown3
          clear hown3 hgrow3 hb3
          go_wp2_with fail
          go_roundw
          case rel =>
            refine ⟨y + 1, p + 1, by omega, by rw [HP.out]; omega, by go_num, rfl, HB3.out, ?_⟩
            have h := HO3.out
            rw [pcells_succ, HP.out, pair_div n x y hlty, pair_mod n x y hlty, ← HP.out]
            exact h
          case measure => simp [intOf]; omega
        · have hyn : y = n := by omega
          subst hyn
          go_wp2_with fail
          go_roundw
          case rel => exact ⟨x + 1, p, by omega, by rw [HP.out, Nat.add_mul]; omega, by go_num, rfl, HBI.out, HOI.out⟩
          case measure => simp [intOf]; omega
    · have hxn : x = n := by omega
      subst hxn
      have hqn : q = N := by rw [HQ.out, HN.out]
      subst hqn
      go_wp2_with fail
      go_ret
      exact ⟨w.heap.size, rfl, HB.out, Nat.le_refl _, pairs_of_owns HN.out HO.out⟩
end Go.Proofs.Ytbhlcfcmjildmaa
namespace Go.Proofs.Ytbhlcfcmjildmaa
open Go Go.RowKit
/-- Three elements, and what doing a pair map at a place makes of them. -/
def at0 (f s : List (List Int)) (t : Nat × Nat × Nat) : Nat × Nat × Nat := (ap f t.1 t.2.1, ap s t.1 t.2.1, t.2.2)
def at1 (f s : List (List Int)) (t : Nat × Nat × Nat) : Nat × Nat × Nat := (t.1, ap f t.2.1 t.2.2, ap s t.2.1 t.2.2)
def doAt (f s : List (List Int)) (i : Nat) (t : Nat × Nat × Nat) : Nat × Nat × Nat := if i = 0 then at0 f s t else at1 f s t
def In3 (n : Nat) (t : Nat × Nat × Nat) : Prop := t.1 < n ∧ t.2.1 < n ∧ t.2.2 < n
def lef (f s : List (List Int)) (t : Nat × Nat × Nat) : Nat × Nat × Nat := doAt f s 0 (doAt f s 1 (doAt f s 0 t))
def rig (f s : List (List Int)) (t : Nat × Nat × Nat) : Nat × Nat × Nat := doAt f s 1 (doAt f s 0 (doAt f s 1 t))
/-- The list of number T. -/
def trip (n T : Nat) : Nat × Nat × Nat := (T / n / n, T / n % n, T % n)
def Eq3 (f s : List (List Int)) (n T : Nat) : Prop := lef f s (trip n T) = rig f s (trip n T)
def lst3 (t : Nat × Nat × Nat) : List Int := [(t.1 : Int), (t.2.1 : Int), (t.2.2 : Int)]
/-- The first list at which the equation does not hold: its number, or the number of all lists. -/
def First (f s : List (List Int)) (n T : Nat) : Prop := (∀ i, i < T → Eq3 f s n i) ∧ T ≤ n * n * n ∧ (T < n * n * n → ¬ Eq3 f s n T)
theorem First.ex (f s : List (List Int)) (n : Nat) : ∃ T, First f s n T := by
  have h : ∀ k, k ≤ n * n * n → (∀ i, i < k → Eq3 f s n i) ∨ ∃ T, First f s n T := by
    intro k
    induction k with
    | zero => intro _; exact .inl (fun i hi => absurd hi (Nat.not_lt_zero _))
    | succ k ih =>
      intro hk
      rcases ih (by omega) with h | h
      · by_cases e : Eq3 f s n k
        · refine .inl (fun i hi => ?_)
          by_cases e2 : i = k
          · subst e2; exact e
          · exact h i (by omega)
        · exact .inr ⟨k, h, by omega, fun _ => e⟩
      · exact .inr h
  rcases h _ (Nat.le_refl _) with h | h
  · exact ⟨_, h, Nat.le_refl _, fun h2 => absurd h2 (by omega)⟩
  · exact h
/-- The first one is where it first fails. -/
theorem First.bad {f s : List (List Int)} {n T k : Nat} (h : First f s n T) (h1 : ∀ i, i < k → Eq3 f s n i) (hk : k < n * n * n) (h2 : ¬ Eq3 f s n k) : T = k := by
  have a : ¬ k < T := fun h3 => h2 (h.1 k h3)
  have b : ¬ T < k := fun h3 => h.2.2 (by omega) (h1 T h3)
  omega
theorem First.all {f s : List (List Int)} {n T : Nat} (h : First f s n T) (h1 : ∀ i, i < n * n * n → Eq3 f s n i) : T = n * n * n := by
  have a := h.2.1
  have b : ¬ T < n * n * n := fun h3 => h.2.2 h3 (h1 T h3)
  omega
theorem trip_of {n x y z : Nat} (hy : y < n) (hz : z < n) : trip n ((x * n + y) * n + z) = (x, y, z) := by
  unfold trip
  rw [pair_div n _ z hz, pair_mod n _ z hz, pair_div n x y hy, pair_mod n x y hy]
theorem trip_lt {n x y z : Nat} (hx : x < n) (hy : y < n) (hz : z < n) : (x * n + y) * n + z < n * n * n := by
  have h := pair_lt n x y hx hy
  have h2 : (x * n + y + 1) * n ≤ n * n * n := Nat.mul_le_mul_right n h
  rw [Nat.add_mul, Nat.one_mul] at h2
  omega
theorem In3.do {f s : List (List Int)} (hp : PMap f s) {n : Nat} (hn : f.length = n) {t : Nat × Nat × Nat} (h : In3 n t) (i : Nat) : In3 n (doAt f s i t) := by
  have hm : s.length = n := by rw [← hp.2.2]; exact hn
  obtain ⟨h1, h2, h3⟩ := h
  unfold doAt
  by_cases e : i = 0
  · rw [if_pos e]; exact ⟨hp.1.ap_lt hn h1 h2, hp.2.1.ap_lt hm h1 h2, h3⟩
  · rw [if_neg e]; exact ⟨h1, hp.1.ap_lt hn h2 h3, hp.2.1.ap_lt hm h2 h3⟩
def EqRes (f s : List (List Int)) (zs : List Int) (code : Int) : Prop :=
  (PMap f s ∧ ∃ T, First f s f.length T ∧ ((T < f.length * f.length * f.length ∧ zs = lst3 (trip f.length T) ∧ code = 0) ∨ (T = f.length * f.length * f.length ∧ zs = [] ∧ code = 4))) ∨ (¬ PMap f s ∧ zs = [] ∧ code = 1)
theorem EqRes.ex (f s : List (List Int)) : ∃ zs code, EqRes f s zs code ∧ zs.length ≤ 1048576 := by
  by_cases h : PMap f s
  · obtain ⟨T, hT⟩ := First.ex f s f.length
    by_cases h2 : T < f.length * f.length * f.length
    · exact ⟨_, _, .inl ⟨h, T, hT, .inl ⟨h2, rfl, rfl⟩⟩, by simp [lst3]⟩
    · exact ⟨_, _, .inl ⟨h, T, hT, .inr ⟨by have := hT.2.1; omega, rfl, rfl⟩⟩, by simp⟩
  · exact ⟨_, _, .inr ⟨h, rfl, rfl⟩, by simp⟩
end Go.Proofs.Ytbhlcfcmjildmaa
namespace Go.Proofs.Ytbhlcfcmjildmaa
open Go Go.RowKit
/-- The pair to which pair number k is led. -/
def ledK (f s : List (List Int)) (n k : Nat) : Nat × Nat := (ap f (k / n) (k % n), ap s (k / n) (k % n))
/-- The numbers below k that are led to q. -/
def ledL (f s : List (List Int)) (n k : Nat) (q : Nat × Nat) : List Nat := (List.range k).filter (fun j => decide (ledK f s n j = q))
theorem ledL_succ (f s : List (List Int)) (n k : Nat) (q : Nat × Nat) : ledL f s n (k + 1) q = if ledK f s n k = q then ledL f s n k q ++ [k] else ledL f s n k q := by
  unfold ledL
  rw [List.range_succ, List.filter_append]
  by_cases h : ledK f s n k = q
  · simp [h]
  · simp [h]
theorem ledL_mem {f s : List (List Int)} {n k : Nat} {q : Nat × Nat} {j : Nat} : j ∈ ledL f s n k q ↔ j < k ∧ ledK f s n j = q := by
  unfold ledL
  simp
theorem ledL_sorted (f s : List (List Int)) (n k : Nat) (q : Nat × Nat) : (ledL f s n k q).Pairwise (· < ·) := by
  unfold ledL
  exact List.Pairwise.filter _ List.pairwise_lt_range
theorem ledL_len (f s : List (List Int)) (n k : Nat) (q : Nat × Nat) : (ledL f s n k q).length ≤ k := by
  have h := List.length_filter_le (fun j => decide (ledK f s n j = q)) (List.range k)
  unfold ledL
  simpa using h
def NoCol (f s : List (List Int)) (n : Nat) : Prop := ∀ i j, i < n * n → j < n * n → i ≠ j → ledK f s n i ≠ ledK f s n j
/-- The first two that are led to one. -/
def FstCol (f s : List (List Int)) (n a b : Nat) : Prop := a < n * n ∧ b < n * n ∧ a ≠ b ∧ ledK f s n a = ledK f s n b ∧ (∀ i, i < a → ∀ j, j < n * n → j ≠ i → ledK f s n i ≠ ledK f s n j) ∧ (∀ j, j < b → j ≠ a → ledK f s n a ≠ ledK f s n j)
theorem FstCol.uniq {f s : List (List Int)} {n a b a' b' : Nat} (h : FstCol f s n a b) (h' : FstCol f s n a' b') : a = a' ∧ b = b' := by
  obtain ⟨h1, h2, h3, h4, h5, h6⟩ := h
  obtain ⟨g1, g2, g3, g4, g5, g6⟩ := h'
  have e : a = a' := by
    rcases Nat.lt_trichotomy a a' with hl | hl | hl
    · exact absurd h4 (g5 a hl b h2 h3.symm)
    · exact hl
    · exact absurd g4 (h5 a' hl b' g2 g3.symm)
  subst e
  refine ⟨rfl, ?_⟩
  rcases Nat.lt_trichotomy b b' with hl | hl | hl
  · exact absurd h4 (g6 b hl h3.symm)
  · exact hl
  · exact absurd g4 (h6 b' hl g3.symm)
theorem FstCol.not {f s : List (List Int)} {n a b : Nat} (h : FstCol f s n a b) : ¬ NoCol f s n := fun hn => hn a b h.1 h.2.1 h.2.2.1 h.2.2.2.1
/-- At the first one whose list has two, the second one of the list. -/
theorem FstCol.of_list {f s : List (List Int)} {n k : Nat} (hk : k < n * n) (h1 : ∀ i, i < k → (ledL f s n (n * n) (ledK f s n i)).length ≤ 1) (h2 : 1 < (ledL f s n (n * n) (ledK f s n k)).length) :
    FstCol f s n k ((ledL f s n (n * n) (ledK f s n k)).getD 1 0) := by
  have hnone : ∀ i, i < k → ∀ j, j < n * n → j ≠ i → ledK f s n i ≠ ledK f s n j := by
    intro i hi j hj hne e
    have m1 : i ∈ ledL f s n (n * n) (ledK f s n i) := ledL_mem.2 ⟨by omega, rfl⟩
    have m2 : j ∈ ledL f s n (n * n) (ledK f s n i) := ledL_mem.2 ⟨hj, e.symm⟩
    have hl := h1 i hi
    match hL : ledL f s n (n * n) (ledK f s n i), m1, m2 with
    | [x], m1, m2 => simp at m1 m2; omega
    | x :: y :: r, _, _ => rw [hL] at hl; simp at hl
  match hL : ledL f s n (n * n) (ledK f s n k), h2 with
  | x :: y :: r, _ =>
    have hs := ledL_sorted f s n (n * n) (ledK f s n k)
    rw [hL] at hs
    have hxy : x < y := by
      have := (List.pairwise_cons.1 hs).1 y (by simp)
      exact this
    have mx : x < n * n ∧ ledK f s n x = ledK f s n k := ledL_mem.1 (by rw [hL]; simp)
    have my : y < n * n ∧ ledK f s n y = ledK f s n k := ledL_mem.1 (by rw [hL]; simp)
    have mk : k ∈ ledL f s n (n * n) (ledK f s n k) := ledL_mem.2 ⟨hk, rfl⟩
    have hxk : x = k := by
      rcases Nat.lt_trichotomy x k with hl | hl | hl
      · exact absurd mx.2 (hnone x hl k hk (by omega))
      · exact hl
      · rw [hL] at mk
        rcases List.mem_cons.1 mk with e | e
        · omega
        · have := (List.pairwise_cons.1 hs).1 k e; omega
    subst hxk
    simp only [List.getD_cons_succ, List.getD_cons_zero]
    refine ⟨hk, my.1, by omega, my.2.symm, hnone, fun j hj hne e => ?_⟩
    have mj : j ∈ ledL f s n (n * n) (ledK f s n x) := ledL_mem.2 ⟨by have := my.1; omega, e.symm⟩
    rw [hL] at mj
    rcases List.mem_cons.1 mj with e1 | e1
    · exact hne e1
    · rcases List.mem_cons.1 e1 with e2 | e2
      · omega
      · have h3 := (List.pairwise_cons.1 hs).2
        have := (List.pairwise_cons.1 h3).1 j e2
        omega
theorem NoCol.of_list {f s : List (List Int)} {n : Nat} (h1 : ∀ i, i < n * n → (ledL f s n (n * n) (ledK f s n i)).length ≤ 1) : NoCol f s n := by
  intro i j hi hj hne e
  have m1 : i ∈ ledL f s n (n * n) (ledK f s n i) := ledL_mem.2 ⟨hi, rfl⟩
  have m2 : j ∈ ledL f s n (n * n) (ledK f s n i) := ledL_mem.2 ⟨hj, e.symm⟩
  have hl := h1 i hi
  match hL : ledL f s n (n * n) (ledK f s n i), m1, m2 with
  | [x], m1, m2 => simp at m1 m2; omega
  | x :: y :: r, _, _ => rw [hL] at hl; simp at hl
theorem col_or (f s : List (List Int)) (n : Nat) : NoCol f s n ∨ ∃ a b, FstCol f s n a b := by
  have key : ∀ k, k ≤ n * n → (∀ i, i < k → (ledL f s n (n * n) (ledK f s n i)).length ≤ 1) ∨ ∃ a b, FstCol f s n a b := by
    intro k
    induction k with
    | zero => intro _; exact .inl (fun i hi => absurd hi (Nat.not_lt_zero _))
    | succ k ih =>
      intro hk
      rcases ih (by omega) with h | h
      · by_cases e : 1 < (ledL f s n (n * n) (ledK f s n k)).length
        · exact .inr ⟨_, _, FstCol.of_list (by omega) h e⟩
        · exact .inl (fun i hi => by
            by_cases e2 : i = k
            · subst e2; omega
            · exact h i (by omega))
      · exact .inr h
  rcases key _ (Nat.le_refl _) with h | h
  · exact .inl (NoCol.of_list h)
  · exact .inr h
/-- The cells of pairs, given by their numbers. -/
def pcs (n : Nat) (l : List Nat) : List Value := l.flatMap (fun j => [.int .i64 ((j / n : Nat) : Int), .int .i64 ((j % n : Nat) : Int)])
theorem pcs_length (n : Nat) (l : List Nat) : (pcs n l).length = l.length * 2 := by
  induction l with
  | nil => rfl
  | cons a r ih => simp only [pcs, List.flatMap_cons, List.length_append, List.length_cons, List.length_nil] at ih ⊢; omega
theorem pcs_snoc (n : Nat) (l : List Nat) (k : Nat) : pcs n (l ++ [k]) = pcs n l ++ [.int .i64 ((k / n : Nat) : Int), .int .i64 ((k % n : Nat) : Int)] := by simp [pcs]
theorem pcs_second (n : Nat) (l : List Nat) (h : 1 < l.length) : (pcs n l)[2]? = some (.int .i64 ((l.getD 1 0 / n : Nat) : Int)) ∧ (pcs n l)[3]? = some (.int .i64 ((l.getD 1 0 % n : Nat) : Int)) := by
  match l, h with
  | a :: b :: r, _ => simp [pcs]
def CoRes (f s : List (List Int)) (zs : List Int) (code : Int) : Prop :=
  (∃ a b, PMap f s ∧ FstCol f s f.length a b ∧ zs = [((a / f.length : Nat) : Int), ((a % f.length : Nat) : Int), ((b / f.length : Nat) : Int), ((b % f.length : Nat) : Int)] ∧ code = 0) ∨ (PMap f s ∧ NoCol f s f.length ∧ zs = [] ∧ code = 4) ∨ (¬ PMap f s ∧ zs = [] ∧ code = 1)
theorem CoRes.ex (f s : List (List Int)) : ∃ zs code, CoRes f s zs code ∧ zs.length ≤ 1048576 := by
  by_cases h : PMap f s
  · rcases col_or f s f.length with h1 | ⟨a, b, h1⟩
    · exact ⟨_, _, .inr (.inl ⟨h, h1, rfl, rfl⟩), by simp⟩
    · exact ⟨_, _, .inl ⟨a, b, h, h1, rfl, rfl⟩, by simp⟩
  · exact ⟨_, _, .inr (.inr ⟨h, rfl, rfl⟩), by simp⟩
end Go.Proofs.Ytbhlcfcmjildmaa
namespace Go.Proofs.Ytbhlcfcmjildmaa
open Go Go.RowKit
open Classical

theorem Rch.trans {rows : List (List Int)} {x y z : Nat} (h : Rch rows x y) (k : Rch rows y z) : Rch rows x z := by
  induction k with
  | start => exact h
  | step _ hs ih => exact .step ih hs

/-- The labels when the elements below k are done, and the number of the next orbit. -/
noncomputable def lab (rows : List (List Int)) : Nat → (Nat → Int) × Nat
  | 0 => (fun _ => -1, 0)
  | x + 1 => if 0 ≤ (lab rows x).1 x then lab rows x else (fun y => if Rch rows x y then ((lab rows x).2 : Int) else (lab rows x).1 y, (lab rows x).2 + 1)
noncomputable def labL (rows : List (List Int)) (n k : Nat) : List Int := (List.range n).map (lab rows k).1
theorem labL_length (rows : List (List Int)) (n k : Nat) : (labL rows n k).length = n := by simp [labL]
theorem labL_at (rows : List (List Int)) (n k y : Nat) (h : y < n) : (labL rows n k).getD y 0 = (lab rows k).1 y := by simp [labL, h]
theorem lab_le (rows : List (List Int)) (k : Nat) : (lab rows k).2 ≤ k := by
  induction k with
  | zero => simp [lab]
  | succ k ih =>
    unfold lab
    split
    · omega
    · show (lab rows k).2 + 1 ≤ k + 1; omega
theorem lab_lo (rows : List (List Int)) (k y : Nat) : -1 ≤ (lab rows k).1 y ∧ (lab rows k).1 y ≤ k := by
  induction k with
  | zero => simp [lab]
  | succ k ih =>
    unfold lab
    split
    · omega
    · have := lab_le rows k
      show -1 ≤ (if Rch rows k y then ((lab rows k).2 : Int) else (lab rows k).1 y) ∧ (if Rch rows k y then ((lab rows k).2 : Int) else (lab rows k).1 y) ≤ _
      split <;> omega

/-- Rows of permutations of n elements. -/
def Gens (rows : List (List Int)) (n : Nat) : Prop := ∀ r, r < rows.length → (rows.getD r []).length = n ∧ Prm (rows.getD r [])
theorem Gens.at {rows : List (List Int)} {n : Nat} (h : Gens rows n) {r v : Nat} (hr : r < rows.length) (hv : v < n) : 0 ≤ (rows.getD r []).getD v 0 ∧ (rows.getD r []).getD v 0 < (n : Int) := by
  obtain ⟨hl, hp⟩ := h r hr
  obtain ⟨p, hpe⟩ : ∃ p, p = rows.getD r [] := ⟨_, rfl⟩
  rw [← hpe] at hl hp ⊢
  have hm : p.getD v 0 ∈ p := by have : v < p.length := (by omega); simp [this]
  have := hp.2.2.1 _ hm
  rw [hl] at this
  exact this
theorem Gens.inj {rows : List (List Int)} {n : Nat} (h : Gens rows n) {r u v : Nat} (hr : r < rows.length) (hu : u < n) (hv : v < n) (e : ((rows.getD r []).getD u 0).toNat = ((rows.getD r []).getD v 0).toNat) : u = v := by
  have h1 := h.at hr hu
  have h2 := h.at hr hv
  obtain ⟨hl, hp⟩ := h r hr
  obtain ⟨p, hpe⟩ : ∃ p, p = rows.getD r [] := ⟨_, rfl⟩
  rw [← hpe] at hl hp e h1 h2
  have e2 : p.getD u 0 = p.getD v 0 := by omega
  have hul : u < p.length := by omega
  have hvl : v < p.length := by omega
  have e3 : p[u] = p[v] := by simpa [hul, hvl] using e2
  have hpw := List.pairwise_iff_getElem.1 hp.2.2.2
  rcases Nat.lt_trichotomy u v with h | h | h
  · exact absurd e3 (hpw u v hul hvl h)
  · exact h
  · exact absurd e3.symm (hpw v u hvl hul h)
theorem Gens.stay {rows : List (List Int)} {n : Nat} (h : Gens rows n) {x y : Nat} (hx : x < n) (hr : Rch rows x y) : y < n := by
  induction hr with
  | start => exact hx
  | step _ hs ih =>
    obtain ⟨r, hr, e⟩ := hs
    have := h.at hr ih
    omega
theorem Gens.back {rows : List (List Int)} {n : Nat} (h : Gens rows n) {x y z : Nat} (hx : x < n) (hy : y < n) (hs : stp rows y z) (hz : Rch rows x z) : Rch rows x y := by
  obtain ⟨r, hr, e⟩ := hs
  let l : List Nat := (List.range n).filter (fun v => decide (Rch rows x v))
  have hl : l.Nodup := List.Pairwise.filter _ List.nodup_range
  have hml : ∀ v, v ∈ l ↔ v < n ∧ Rch rows x v := fun v => by simp [l]
  let f : Nat → Nat := fun v => ((rows.getD r []).getD v 0).toNat
  have hnd : (l.map f).Nodup := by
    rw [List.nodup_iff_pairwise_ne, List.pairwise_map]
    refine List.Pairwise.imp_of_mem ?_ (List.nodup_iff_pairwise_ne.1 hl)
    intro a b ha hb hne e2
    exact hne (h.inj hr ((hml a).1 ha).1 ((hml b).1 hb).1 e2)
  have hsub : ∀ a ∈ l.map f, a ∈ l := by
    intro a ha
    obtain ⟨v, hv, rfl⟩ := List.mem_map.1 ha
    have hv' := (hml v).1 hv
    have hr' : Rch rows x (f v) := .step hv'.2 ⟨r, hr, rfl⟩
    exact (hml _).2 ⟨h.stay hx hr', hr'⟩
  obtain ⟨l', hl'⟩ := subset_perm (l.map f) l hnd hsub
  have hlen := hl'.length_eq
  rw [List.length_append, List.length_map] at hlen
  have h0 : l' = [] := List.eq_nil_of_length_eq_zero (by omega)
  subst h0
  rw [List.append_nil] at hl'
  have hzl : z ∈ l := (hml z).2 ⟨h.stay hx hz, hz⟩
  obtain ⟨y', hy', e'⟩ := List.mem_map.1 (hl'.mem_iff.1 hzl)
  have hy2 := (hml y').1 hy'
  have : y = y' := h.inj hr hy hy2.1 (by rw [e]; exact e'.symm)
  rw [this]
  exact hy2.2
theorem lab_closed {rows : List (List Int)} {n : Nat} (h : Gens rows n) (k : Nat) (hk : k ≤ n) (y z : Nat) (hy : y < n) (hs : stp rows y z) : 0 ≤ (lab rows k).1 y ↔ 0 ≤ (lab rows k).1 z := by
  induction k with
  | zero => simp [lab]
  | succ k ih =>
    have ih := ih (by omega)
    unfold lab
    split
    · exact ih
    · show 0 ≤ (if Rch rows k y then ((lab rows k).2 : Int) else (lab rows k).1 y) ↔ 0 ≤ (if Rch rows k z then ((lab rows k).2 : Int) else (lab rows k).1 z)
      by_cases h1 : Rch rows k y
      · rw [if_pos h1, if_pos (.step h1 hs)]
      · have h2 : ¬ Rch rows k z := fun h2 => h1 (h.back (by omega) hy hs h2)
        rw [if_neg h1, if_neg h2]
        exact ih
theorem Sys.gens {n : Nat} {rows : List (List Int)} (h : Sys (n : Int) rows) : Gens rows n := fun r hr => ⟨by have := (h.2.2.2 r hr).1; omega, (h.2.2.2 r hr).2⟩
def OrbRes (n : Int) (rows : List (List Int)) (zs : List Int) (code : Int) : Prop := (Sys n rows ∧ zs = labL rows n.toNat n.toNat ∧ code = 0) ∨ (¬ Sys n rows ∧ zs = [] ∧ code = 1)
theorem OrbRes.ex (n : Int) (rows : List (List Int)) : ∃ zs code, OrbRes n rows zs code ∧ zs.length ≤ 4194304 := by
  by_cases h : Sys n rows
  · exact ⟨_, _, .inl ⟨h, rfl, rfl⟩, by rw [labL_length]; have := h.2.1; omega⟩
  · exact ⟨_, _, .inr ⟨h, rfl, rfl⟩, by simp⟩
end Go.Proofs.Ytbhlcfcmjildmaa
namespace Go.Proofs.Ytbhlcfcmjildmaa
open Go Go.RowKit
set_option maxHeartbeats 1000000

set_option maxRecDepth 100000 in
theorem nonZ_any (A : Option Addr) (n c : Nat) (f : List (List Int)) (B : Option Addr) (d : Nat) (s : List (List Int)) (r : Bool) (w : World) (hz : ZArg 1048576 w A n f B n s) (hp : PMap f s) (hrr : r = true ↔ NonF f s) :
    Calls Try.prog 35 #[.agg #[.slice A n c, .slice B n d]] w fun e w' => e = .returned (.bool r) ∧ Below w.heap.size w w' := by
  have hnb := hz.sz.nb
  have HZ := hide hz
  have HB0 := hide ((Below.refl _ w).alloc (Nat.le_refl _) (Obj.cells #[Value.slice A n c, Value.slice B n d] 29))
  have HK0 := hide (Blk.new w 29 [.slice A n c, .slice B n d])
  have HP := hide hp
  have HR := hide hrr
  have h12 := hz.small hp
  clear hp hrr hz
  by_cases h1 : AllPrm f
  · have H1 := hide h1
    have hr2 : r = true ↔ AllPrm (turnL s) := by rw [HR.out]; unfold NonF; exact ⟨fun h => h.2, fun h => ⟨h1, h⟩⟩
    have HR2 := hide hr2
    clear h1 hr2
    go_enter Try.func35, Try.ntmps35
    go_wp2_with fail
    refine (rowsI_any _ _ _ f true _ HZ.out.sz.fl hnb HZ.out.sz.nr (HZ.out.later HB0.out).fst ⟨fun _ => H1.out, fun _ => rfl⟩).mono ?_
    rintro e w2 ⟨rfl, hb2⟩
    have HB2 := hide (HB0.out.trans (hb2.mono HB0.out.size))
    have HK2 := hide (HK0.out.later hb2)
    have k0 := HK2.out.cell 0 _ rfl
    have k1 := HK2.out.cell 1 _ rfl
    clear hb2
    go_wp2_with fail
    refine (turnI_any _ _ _ s _ HZ.out.sz.sl hnb (fun i hi => by rw [HP.out.2.1.rows i hi]; exact HZ.out.sz.sl) (HZ.out.later HB2.out).snd).mono ?_
    rintro e w3 ⟨A3, c3, rfl, hb3, hobj⟩
    have HB3 := hide (HB2.out.trans (hb3.mono HB2.out.size))
    have HOBJ := hide hobj
    clear hb3 hobj
    go_wp2_with fail
    refine (rowsI_any _ _ _ (turnL s) r _ (by rw [turnL_length]; exact HZ.out.sz.sl) hnb (fun i hi => by rw [turnL_length] at hi; unfold turnL; rw [grid_row_length _ _ _ hi, HZ.out.sz.sl]; exact hnb) HOBJ.out.rd HR2.out).mono ?_
    rintro e w4 ⟨rfl, hb4⟩
    have HB4 := hide (HB3.out.trans (hb4.mono HB3.out.size))
    clear hb4
    go_wp2_with fail
    go_ret
    exact ⟨rfl, HB4.out⟩
  · have hrf : r = false := by
      cases r
      · rfl
      · exact absurd (HR.out.1 rfl).1 h1
    subst hrf
    have H1 := hide h1
    clear h1
    go_enter Try.func35, Try.ntmps35
    go_wp2_with fail
    refine (rowsI_any _ _ _ f false _ HZ.out.sz.fl hnb HZ.out.sz.nr (HZ.out.later HB0.out).fst ⟨fun h => absurd h (by simp), fun h => absurd h H1.out⟩).mono ?_
    rintro e w2 ⟨rfl, hb2⟩
    have HB2 := hide (HB0.out.trans (hb2.mono HB0.out.size))
    clear hb2
    go_wp2_with fail
    go_ret
    exact ⟨rfl, HB2.out⟩

end Go.Proofs.Ytbhlcfcmjildmaa
namespace Go.Proofs.Ytbhlcfcmjildmaa
open Go Go.RowKit
set_option maxHeartbeats 1000000

def hdr (G : Nat → Nat) (n x : Nat) : List Value := (List.range x).map fun i => .slice (some ⟨G i, 0, none⟩) n n
theorem hdr_length (G : Nat → Nat) (n x : Nat) : (hdr G n x).length = x := by simp [hdr]
theorem hdr_succ (G : Nat → Nat) (n x R : Nat) : hdr (fun i => if i = x then R else G i) n (x + 1) = hdr G n x ++ [.slice (some ⟨R, 0, none⟩) n n] := by
  unfold hdr
  rw [List.range_succ, List.map_append]
  congr 1
  · refine List.map_congr_left fun i hi => ?_
    have := List.mem_range.1 hi
    show Value.slice (some ⟨if i = x then R else G i, 0, none⟩) n n = _
    rw [if_neg (by omega)]
  · simp
section
variable {ts t tz : TypeId} {B : Nat} {w w' w1 : World} {ob : Nat} {v1 v2 v' : Value} {x1 x2 n : Nat} {G1 G2 : Nat → Nat}
/-- Two tables of zeros that the call builds row by row, in the box ob. -/
structure Emp (ts t : TypeId) (B : Nat) (w : World) (ob : Nat) (v1 v2 : Value) (x1 x2 n : Nat) (G1 G2 : Nat → Nat) : Prop where
  low : ob < B
  bsz : B ≤ w.heap.size
  o1 : w.ownsRow B ts 1 v1 x1 (hdr G1 n x1)
  o2 : w.ownsRow B ts 1 v2 x2 (hdr G2 n x2)
  ne : ∀ g, v1.ownBlock = some g → v2.ownBlock ≠ some g
  r1 : ∀ i, i < x1 → B ≤ G1 i ∧ PreIs w (G1 i) t n (fun _ => .int .i64 0)
  r2 : ∀ i, i < x2 → B ≤ G2 i ∧ PreIs w (G2 i) t n (fun _ => .int .i64 0)
  i1 : ∀ i j, i < x1 → j < x1 → i ≠ j → G1 i ≠ G1 j
  i2 : ∀ i j, i < x2 → j < x2 → i ≠ j → G2 i ≠ G2 j
  i12 : ∀ i j, i < x1 → j < x2 → G1 i ≠ G2 j

theorem Emp.start (w : World) (ts t : TypeId) (n : Nat) (h : ob < w.heap.size) : Emp ts t w.heap.size w ob (.slice none 0 0) (.slice none 0 0) 0 0 n (fun _ => 0) (fun _ => 0) :=
  ⟨h, Nat.le_refl _, World.ownsRow_nil _ _ _ _, World.ownsRow_nil _ _ _ _, fun g hg => by simp [Value.ownBlock] at hg, fun i hi => absurd hi (Nat.not_lt_zero _), fun i hi => absurd hi (Nat.not_lt_zero _), fun i j hi => absurd hi (Nat.not_lt_zero _), fun i j hi => absurd hi (Nat.not_lt_zero _), fun i j hi => absurd hi (Nat.not_lt_zero _)⟩

theorem PreIs.later' {b : Nat} {f : Nat → Value} (r : PreIs w b t n f) (hb : Below w.heap.size w w') : PreIs w' b t n f := r.of_block (hb.block b r.lt)

theorem Emp.swapped (h : Emp ts t B w ob v1 v2 x1 x2 n G1 G2) : Emp ts t B w ob v2 v1 x2 x1 n G2 G1 :=
  ⟨h.low, h.bsz, h.o2, h.o1, fun g h1 h2 => h.ne g h2 h1, h.r2, h.r1, h.i2, h.i1, fun i j hi hj e => h.i12 j i hj hi e.symm⟩

theorem pre_ne_own {b g : Nat} {f : Nat → Value} {v : Value} {k : Nat} {xs : List Value} (hne : ts ≠ t) (r : PreIs w b t n f) (h : w.ownsRow B ts 1 v k xs) (hg : v.ownBlock = some g) : b ≠ g := by
  intro e
  subst e
  obtain ⟨_, _, cur, h1⟩ := own_type h hg
  obtain ⟨cur', h2, _⟩ := r
  rw [h1] at h2
  injection h2 with h2
  injection h2 with _ h2
  exact hne h2

theorem Emp.kept (h : Emp ts t B w ob v1 v2 x1 x2 n G1 G2) {cs : List Value} (hk : Blk w ob tz cs) {W : World} (hbw : Below w.heap.size w W) (hg : W.grownBy w1 v1.ownBlock) : Blk w1 ob tz cs :=
  (hg.block ob (Nat.lt_of_lt_of_le hk.lt hbw.size) (fun e => by
    have := (own_type h.o1 e.symm).2.1
    have := h.low
    omega)).trans (hk.later hbw)
theorem Emp.keptR (h : Emp ts t B w ob v1 v2 x1 x2 n G1 G2) {b : Nat} {cs : List Value} (hk : Blk w b tz cs) (hb : b < B) (hne : b ≠ ob) {W : World} (hbw : Below w.heap.size w W) (hg : W.grownBy w1 v1.ownBlock) (q : Nat) (u : Value) : Blk (w1.setCell ⟨ob, q, none⟩ u) b tz cs :=
  (Below.heap_setCell w1 ⟨ob, q, none⟩ u b hne).trans ((hg.block b (Nat.lt_of_lt_of_le hk.lt hbw.size) (fun e => by
    have := (own_type h.o1 e.symm).2.1
    omega)).trans (hk.later hbw))
/-- What a row more in one list leaves. -/
theorem Emp.push (hne : ts ≠ t) (h : Emp ts t B w ob v1 v2 x1 x2 n G1 G2) {q : Nat} {W : World} (hbw : Below w.heap.size w W) (hWs : W.heap.size = w.heap.size + 1 + 1) (hWr : PreIs W w.heap.size t n (fun _ => .int .i64 0))
    (hown : w1.ownsRow B ts 1 v' (x1 + 1) (hdr G1 n x1 ++ [.slice (some ⟨w.heap.size, 0, none⟩) n n])) (hg : W.grownBy w1 v1.ownBlock)
    (hat : v'.ownBlock = v1.ownBlock ∨ v'.ownBlock = some (w.heap.size + 1 + 1)) :
    Emp ts t B (w1.setCell ⟨ob, q, none⟩ v') ob v' v2 (x1 + 1) x2 n (fun i => if i = x1 then w.heap.size else G1 i) G2 := by
  have hsz := hg.size
  rw [hWs] at hsz
  have hlow := h.low
  have hbsz := h.bsz
  have keep : ∀ b, b < w.heap.size → v1.ownBlock ≠ some b → b ≠ ob → (w1.setCell ⟨ob, q, none⟩ v').heap[b]? = w.heap[b]? := fun b h1 h2 h3 =>
    (Below.heap_setCell w1 ⟨ob, q, none⟩ v' b h3).trans ((hg.block b (by omega) (fun e => h2 e.symm)).trans (hbw.block b h1))
  have krow : ∀ b, B ≤ b → PreIs w b t n (fun _ => .int .i64 0) → PreIs (w1.setCell ⟨ob, q, none⟩ v') b t n (fun _ => .int .i64 0) := fun b hB r =>
    r.of_block (keep b r.lt (fun e => pre_ne_own hne r h.o1 e rfl) (by omega))
  have hnew : PreIs (w1.setCell ⟨ob, q, none⟩ v') w.heap.size t n (fun _ => .int .i64 0) := by
    refine hWr.of_block ((Below.heap_setCell w1 ⟨ob, q, none⟩ v' w.heap.size (by show w.heap.size ≠ ob; omega)).trans (hg.block _ (by omega) (fun e => ?_)))
    have := (own_type h.o1 e.symm).1
    omega
  refine ⟨hlow, by simp [World.setCell]; omega, ownsRow_setCell_below (by rw [hdr_succ]; exact hown) hlow _, ownsRow_setCell_below ((ownsRow_below h.o2 hbw).kept hg ?_) hlow _, fun g h1 h2 => ?_, fun i hi => ?_, fun i hi => ?_, fun i j hi hj hij => ?_, h.i2, fun i j hi hj => ?_⟩
  · by_cases e : v2.ownBlock = none
    · exact .inl e
    · refine .inr (fun e2 => ?_)
      cases e3 : v2.ownBlock with
      | none => exact e e3
      | some g => exact h.ne g (e2.symm.trans e3) e3
  · rcases hat with e | e
    · exact h.ne g (e.symm.trans h1) h2
    · rw [h1] at e
      injection e with e
      have := (own_type h.o2 h2).1
      omega
  · by_cases e : i = x1
    · rw [if_pos e]; exact ⟨hbsz, hnew⟩
    · simp only [if_neg e]
      have hr := h.r1 i (by omega)
      exact ⟨hr.1, krow _ hr.1 hr.2⟩
  · have hr := h.r2 i hi
    exact ⟨hr.1, krow _ hr.1 hr.2⟩
  · by_cases e : i = x1
    · by_cases e2 : j = x1
      · omega
      · simp only [if_pos e, if_neg e2]
        have := (h.r1 j (by omega)).2.lt
        omega
    · by_cases e2 : j = x1
      · simp only [if_neg e, if_pos e2]
        have := (h.r1 i (by omega)).2.lt
        omega
      · simp only [if_neg e, if_neg e2]
        exact h.i1 i j (by omega) (by omega) hij
  · by_cases e : i = x1
    · simp only [if_pos e]
      have := (h.r2 j hj).2.lt
      omega
    · simp only [if_neg e]
      exact h.i12 i j (by omega) hj

theorem Emp.lowset (h : Emp ts t B w ob v1 v2 x1 x2 n G1 G2) {p : Addr} (hp : p.block < B) (u : Value) : Emp ts t B (w.setCell p u) ob v1 v2 x1 x2 n G1 G2 :=
  ⟨h.low, by simpa [World.setCell] using h.bsz, ownsRow_setCell_below h.o1 hp _, ownsRow_setCell_below h.o2 hp _, h.ne, fun i hi => ⟨(h.r1 i hi).1, (h.r1 i hi).2.far (by have := (h.r1 i hi).1; omega) _⟩, fun i hi => ⟨(h.r2 i hi).1, (h.r2 i hi).2.far (by have := (h.r2 i hi).1; omega) _⟩, h.i1, h.i2, h.i12⟩
/-- Two tables that have no block in common, all from lo on. -/
structure Duo (ts t : TypeId) (lo : Nat) (w : World) (n : Nat) (g1 : Nat) (G1 : Nat → Nat) (f1 : Nat → Nat → Int) (g2 : Nat) (G2 : Nat → Nat) (f2 : Nat → Nat → Int) : Prop where
  t1 : TabF ts t w g1 G1 n f1
  t2 : TabF ts t w g2 G2 n f2
  l1 : lo ≤ g1 ∧ ∀ i, i < n → lo ≤ G1 i
  l2 : lo ≤ g2 ∧ ∀ i, i < n → lo ≤ G2 i
  ne : g1 ≠ g2
  n12 : ∀ i, i < n → g1 ≠ G2 i
  n21 : ∀ i, i < n → g2 ≠ G1 i
  rows : ∀ i j, i < n → j < n → G1 i ≠ G2 j
theorem tabF_of {g c : Nat} (hne : ts ≠ t) (ho : w.ownsRow B ts 1 (.slice (some ⟨g, 0, none⟩) n c) n (hdr G1 n n)) (hr : ∀ i, i < n → B ≤ G1 i ∧ PreIs w (G1 i) t n (fun _ => .int .i64 0)) (hi : ∀ i j, i < n → j < n → i ≠ j → G1 i ≠ G1 j) : TabF ts t w g G1 n (fun _ _ => 0) := by
  obtain ⟨_, _, cur, hh⟩ := own_type ho (g := g) rfl
  refine ⟨⟨fun _ => n, cur, hh, fun i hin => ?_⟩, fun i hin => (hr i hin).2, fun i hin e => pre_ne_own hne (hr i hin).2 ho rfl e.symm, hi⟩
  have h := ho.cells (g := g) rfl i (.slice (some ⟨G1 i, 0, none⟩) n n) (by unfold hdr; simp [hin])
  have e : ((⟨g, 0, none⟩ : Addr).add i) = ⟨g, i, none⟩ := by
    unfold Addr.add
    split
    · rename_i e; rw [e]
    · simp
  rw [e, cell_of_row w g i cur ts (0, 0) hh] at h
  exact h
theorem Emp.duo {g1 g2 c1 c2 lo : Nat} (h : Emp ts t B w ob (.slice (some ⟨g1, 0, none⟩) n c1) (.slice (some ⟨g2, 0, none⟩) n c2) n n n G1 G2) (hne : ts ≠ t) (hlo : lo ≤ B) : Duo ts t lo w n g1 G1 (fun _ _ => 0) g2 G2 (fun _ _ => 0) :=
  ⟨tabF_of hne h.o1 h.r1 h.i1, tabF_of hne h.o2 h.r2 h.i2, ⟨Nat.le_trans hlo (own_type h.o1 (g := g1) rfl).2.1, fun i hi => Nat.le_trans hlo (h.r1 i hi).1⟩, ⟨Nat.le_trans hlo (own_type h.o2 (g := g2) rfl).2.1, fun i hi => Nat.le_trans hlo (h.r2 i hi).1⟩, fun e => h.ne g1 rfl (by rw [e]; rfl), fun i hi e => pre_ne_own hne (h.r2 i hi).2 h.o1 rfl e.symm, fun i hi e => pre_ne_own hne (h.r1 i hi).2 h.o2 rfl e.symm, h.i12⟩
end
end Go.Proofs.Ytbhlcfcmjildmaa
namespace Go.Proofs.Ytbhlcfcmjildmaa
open Go Go.RowKit
set_option maxHeartbeats 1000000

theorem goodS_any (A : Option Addr) (n c : Nat) (f : List (List Int)) (B : Option Addr) (m d : Nat) (s : List (List Int)) (r : Bool) (w : World) (hz : ZArg 1048576 w A n f B m s) (hp : PMap f s) (hr : r = true ↔ NonF f s) :
    Calls Try.prog 28 #[.agg #[.slice A n c, .slice B m d]] w fun e w' => e = .returned (.bool r) ∧ Below w.heap.size w w' := by
  have hnb := hz.sz.nb
  have HZ := hide hz
  have HB0 := hide ((Below.refl _ w).alloc (Nat.le_refl _) (Obj.cells #[Value.slice A n c, Value.slice B m d] 29))
  have HK0 := hide (Blk.new w 29 [.slice A n c, .slice B m d])
  have HP := hide hp
  have HR := hide hr
  obtain rfl := hz.same hp
  clear hp hr hz
  by_cases h1 : AllPrm f
  · have H1 := hide h1
    have hr2 : r = true ↔ AllPrm (turnL s) := by rw [HR.out]; unfold NonF; exact ⟨fun h => h.2, fun h => ⟨h1, h⟩⟩
    have HR2 := hide hr2
    clear h1 hr2
    go_enter Try.func28, Try.ntmps28
    go_wp2_with fail
    refine (rowsS_any _ _ _ f true _ HZ.out.sz.fl hnb HZ.out.sz.nr (HZ.out.later HB0.out).fst ⟨fun _ => H1.out, fun _ => rfl⟩).mono ?_
    rintro e w2 ⟨rfl, hb2⟩
    have HB2 := hide (HB0.out.trans (hb2.mono HB0.out.size))
    have HK2 := hide (HK0.out.later hb2)
    have k0 := HK2.out.cell 0 _ rfl
    have k1 := HK2.out.cell 1 _ rfl
    clear hb2
    go_wp2_with fail
    refine (l01Turn_any _ _ _ s _ HZ.out.sz.sl hnb (fun i hi => by rw [HP.out.2.1.rows i hi]; exact HZ.out.sz.sl) (HZ.out.later HB2.out).snd).mono ?_
    rintro e w3 ⟨A3, c3, rfl, hb3, hobj⟩
    have HB3 := hide (HB2.out.trans (hb3.mono HB2.out.size))
    have HOBJ := hide hobj
    clear hb3 hobj
    go_wp2_with fail
    refine (rowsS_any _ _ _ (turnL s) r _ (by rw [turnL_length]; exact HZ.out.sz.sl) hnb (fun i hi => by rw [turnL_length] at hi; unfold turnL; rw [grid_row_length _ _ _ hi, HZ.out.sz.sl]; exact hnb) HOBJ.out.rd HR2.out).mono ?_
    rintro e w4 ⟨rfl, hb4⟩
    have HB4 := hide (HB3.out.trans (hb4.mono HB3.out.size))
    clear hb4
    go_wp2_with fail
    go_ret
    exact ⟨rfl, HB4.out⟩
  · have hrf : r = false := by
      cases r
      · rfl
      · exact absurd (HR.out.1 rfl).1 h1
    subst hrf
    have H1 := hide h1
    clear h1
    go_enter Try.func28, Try.ntmps28
    go_wp2_with fail
    refine (rowsS_any _ _ _ f false _ HZ.out.sz.fl hnb HZ.out.sz.nr (HZ.out.later HB0.out).fst ⟨fun h => absurd h (by simp), fun h => absurd h H1.out⟩).mono ?_
    rintro e w2 ⟨rfl, hb2⟩
    have HB2 := hide (HB0.out.trans (hb2.mono HB0.out.size))
    clear hb2
    go_wp2_with fail
    go_ret
    exact ⟨rfl, HB2.out⟩
end Go.Proofs.Ytbhlcfcmjildmaa
namespace Go.Proofs.Ytbhlcfcmjildmaa
open Go Go.RowKit
set_option maxHeartbeats 1000000

theorem twiceS_any (A : Option Addr) (n c : Nat) (f : List (List Int)) (B : Option Addr) (m d : Nat) (s : List (List Int)) (r : Bool) (w : World) (hz : ZArg 1048576 w A n f B m s) (hp : PMap f s) (hr : r = true ↔ InvF f s) :
    Calls Try.prog 29 #[.agg #[.slice A n c, .slice B m d]] w fun e w' => e = .returned (.bool r) ∧ Below w.heap.size w w' := by
  have hnb := hz.sz.nb
  have HZ := hide hz
  have HB0 := hide ((Below.refl _ w).alloc (Nat.le_refl _) (Obj.cells #[Value.slice A n c, Value.slice B m d] 29))
  have HK0 := hide (Blk.new w 29 [.slice A n c, .slice B m d])
  have HFL := hide hz.sz.fl
  have HP := hide hp
  have HR := hide hr
  have h12 := hz.small hp
  obtain rfl := hz.same hp
  clear hp hr hz
  go_enter Try.func29, Try.ntmps29
  go_wp2_with fail
  go_loopw [3] (fun i wr => ∃ x : Nat, x ≤ m ∧ i = .int .i64 x ∧ Below w.heap.size w wr ∧ Blk wr w.heap.size 29 [.slice A m c, .slice B m d] ∧ ∀ a b, a < x → b < m → ap f (ap f a b) (ap s a b) = a ∧ ap s (ap f a b) (ap s a b) = b) (fun i _ => m - (intOf i).toNat)
  case atStart => exact ⟨0, Nat.zero_le _, rfl, HB0.out, HK0.out, fun a b ha => absurd ha (Nat.not_lt_zero _)⟩
  case round =>
    obtain ⟨x, hx, rfl, hbe, hkk, hall⟩ := hrel
    have HB := hide hbe
    have HK := hide hkk
    have HALL := hide hall
    clear hbe hkk hall
    have k0 := HK.out.cell 0 _ rfl
    have k1 := HK.out.cell 1 _ rfl
    by_cases hlt : x < m
    · have hxz : (x : Int) < m := by omega
      go_wp2_with fail
      clear k0 k1
      obtain ⟨wo, rfl⟩ : ∃ wo : World, wo = wr := ⟨_, rfl⟩
      go_loopw [4] (fun i wi => ∃ y : Nat, y ≤ m ∧ i = .int .i64 y ∧ Below w.heap.size w wi ∧ Blk wi w.heap.size 29 [.slice A m c, .slice B m d] ∧ ∀ b, b < y → ap f (ap f x b) (ap s x b) = x ∧ ap s (ap f x b) (ap s x b) = b) (fun i _ => m - (intOf i).toNat)
      case atStart => exact ⟨0, Nat.zero_le _, rfl, HB.out, HK.out, fun b hb => absurd hb (Nat.not_lt_zero _)⟩
      case round =>
        obtain ⟨y, hy, rfl, hbi, hki, halli⟩ := hrel
        have HBI := hide hbi
        have HKI := hide hki
        have HALLI := hide halli
        clear hbi hki halli
        have k0 := HKI.out.cell 0 _ rfl
        have k1 := HKI.out.cell 1 _ rfl
        by_cases hlty : y < m
        · have hyz : (y : Int) < m := by omega
          obtain ⟨b, o, b2, o2, bx, ox, cx, by', oy, cy, rfl, rfl, h1, h2, h3, h4, _, _, _, _⟩ := (HZ.out.later HBI.out).reads HP.out hlt hlty
          have hu := HP.out.lt1 HFL.out hlt hlty
          have hv := HP.out.lt2 HFL.out hlt hlty
          obtain ⟨u, hue⟩ : ∃ u, ap f x y = u := ⟨_, rfl⟩
          obtain ⟨v, hve⟩ : ∃ v, ap s x y = v := ⟨_, rfl⟩
          rw [hue] at h3 hu
          rw [hve] at h4 hv
          obtain ⟨b', o', b2', o2', bu, ou, cu, bv, ov, cv, e1, e2, g1, g2, g3, g4, _, _, _, _⟩ := (HZ.out.later HBI.out).reads HP.out hu hv
          injection e1 with e1
          injection e1 with e1 e3 _
          injection e2 with e2
          injection e2 with e2 e4 _
          subst e1
          subst e3
          subst e2
          subst e4
          obtain ⟨u2, hue2⟩ : ∃ u2, ap f u v = u2 := ⟨_, rfl⟩
          obtain ⟨v2, hve2⟩ : ∃ v2, ap s u v = v2 := ⟨_, rfl⟩
          rw [hue2] at g3
          rw [hve2] at g4
          have HU := hide hue
          have HV := hide hve
          have HU2 := hide hue2
          have HV2 := hide hve2
          clear hue hve hue2 hve2
          have huz : (u : Int) < m := by omega
          have hvz : (v : Int) < m := by omega
          have hno : ¬ (u2 = x ∧ v2 = y) → r = false := fun h => by
            cases r
            · rfl
            · have h0 := (HR.out.1 rfl) x y (by have := HFL.out; omega) (by have := HFL.out; omega)
              rw [HU.out, HV.out, HU2.out, HV2.out] at h0
              exact absurd h0 h
          have HNO := hide hno
          clear hno
          have hcs : (((u2 : Int) != (x : Int)) = false ∧ ((v2 : Int) != (y : Int)) = false ∧ u2 = x ∧ v2 = y) ∨ (((u2 : Int) != (x : Int)) = true ∧ ¬ u2 = x) ∨ (((u2 : Int) != (x : Int)) = false ∧ ((v2 : Int) != (y : Int)) = true ∧ ¬ v2 = y) := by
            by_cases q1 : u2 = x
            · by_cases q2 : v2 = y
              · exact .inl ⟨by simp [q1], by simp [q2], q1, q2⟩
              · exact .inr (.inr ⟨by simp [q1], by simp; omega, q2⟩)
            · exact .inr (.inl ⟨by simp; omega, q1⟩)
          go_wp2_with fail
          go_quiet (fail)
          have hBN := bdrewN HBI.out nq
          have hKN := HKI.out.drewN nq
          have HBN := hide hBN
          have HKN := hide hKN
          clear hBN hKN
          rcases hcs with ⟨t1, t2, t3, t4⟩ | ⟨t1, t2⟩ | ⟨t1, t2, t3⟩
          · have HT := hide (And.intro t3 t4)
            clear t3 t4
            go_wp2_with fail
            go_roundw
            case rel =>
              refine ⟨y + 1, by omega, by go_num, HBN.out, HKN.out, fun b hb => ?_⟩
              by_cases e : b = y
              · subst e; rw [HU.out, HV.out, HU2.out, HV2.out]; exact HT.out
              · exact HALLI.out b (by omega)
            case measure => simp [intOf]; omega
          · have hrf := HNO.out (fun h => t2 h.1)
            subst hrf
            clear t2
            go_wp2_with fail
            go_ret
            exact ⟨rfl, HBN.out⟩
          · have hrf := HNO.out (fun h => t3 h.2)
            subst hrf
            clear t3
            go_wp2_with fail
            go_ret
            exact ⟨rfl, HBN.out⟩
        · have hyn : y = m := by omega
          subst hyn
          go_wp2_with fail
          go_roundw
          case rel =>
            refine ⟨x + 1, by omega, by go_num, HBI.out, HKI.out, fun a b ha hb => ?_⟩
            by_cases e : a = x
            · subst e; exact HALLI.out b hb
            · exact HALL.out a b (by omega) hb
          case measure => simp [intOf]; omega
    · have hxn : x = m := by omega
      subst hxn
      have hrt : r = true := HR.out.2 (fun a b ha hb => HALL.out a b (by have := HFL.out; omega) (by have := HFL.out; omega))
      subst hrt
      go_wp2_with fail
      go_ret
      exact ⟨rfl, HB.out⟩
end Go.Proofs.Ytbhlcfcmjildmaa
namespace Go.Proofs.Ytbhlcfcmjildmaa
open Go Go.RowKit

/-- What is asked of the function value: for each three elements, in each later world, it says whether they are as asked, and leaves what there was. -/
def BoolFn3 (P : Program) (F : FuncId) (lb : Array Value) (n : Nat) (q : Nat → Nat → Nat → Bool) (w : World) : Prop :=
  ∀ (W : World) (x y z : Nat), x < n → y < n → z < n → Below w.heap.size w W → Calls P F (#[.int .i64 x, .int .i64 y, .int .i64 z] ++ lb) W fun e w' => e = .returned (.bool (q x y z)) ∧ Below W.heap.size W w'
theorem BoolFn3.later {P : Program} {F : FuncId} {lb : Array Value} {n : Nat} {q : Nat → Nat → Nat → Bool} {w w' : World} (hc : BoolFn3 P F lb n q w) (hb : Below w.heap.size w w') : BoolFn3 P F lb n q w' :=
  fun W x y z hx hy hz hw => hc W x y z hx hy hz (hb.trans (hw.mono hb.size))

/-- What is said of the list of number T. -/
def qAt (q : Nat → Nat → Nat → Bool) (n T : Nat) : Bool := q (trip n T).1 (trip n T).2.1 (trip n T).2.2
theorem qAt_at {q : Nat → Nat → Nat → Bool} {n x y z : Nat} (hy : y < n) (hz : z < n) : qAt q n ((x * n + y) * n + z) = q x y z := by
  unfold qAt
  rw [trip_of hy hz]
/-- T is the first that is as asked, or behind all. -/
def FirstQ (q : Nat → Nat → Nat → Bool) (n T : Nat) : Prop := (∀ i, i < T → qAt q n i = false) ∧ T ≤ n * n * n ∧ (T < n * n * n → qAt q n T = true)
theorem FirstQ.bad {q : Nat → Nat → Nat → Bool} {n T k : Nat} (h : FirstQ q n T) (h1 : ∀ i, i < k → qAt q n i = false) (hk : k < n * n * n) (h2 : qAt q n k = true) : T = k := by
  have a : ¬ k < T := fun h3 => by have := h.1 k h3; rw [h2] at this; exact absurd this (by simp)
  have b : ¬ T < k := fun h3 => by have := h1 T h3; rw [h.2.2 (by omega)] at this; exact absurd this (by simp)
  omega
theorem FirstQ.all {q : Nat → Nat → Nat → Bool} {n T : Nat} (h : FirstQ q n T) (h1 : ∀ i, i < n * n * n → qAt q n i = false) : T = n * n * n := by
  have a := h.2.1
  have b : ¬ T < n * n * n := fun h3 => by have := h1 T h3; rw [h.2.2 h3] at this; exact absurd this (by simp)
  omega
theorem FirstQ.ex (q : Nat → Nat → Nat → Bool) (n : Nat) : ∃ T, FirstQ q n T := by
  have h : ∀ k, k ≤ n * n * n → (∀ i, i < k → qAt q n i = false) ∨ ∃ T, FirstQ q n T := by
    intro k
    induction k with
    | zero => intro _; exact .inl (fun i hi => absurd hi (Nat.not_lt_zero _))
    | succ k ih =>
      intro hk
      rcases ih (by omega) with h | h
      · rcases e : qAt q n k with _ | _
        · refine .inl (fun i hi => ?_)
          by_cases e2 : i = k
          · subst e2; exact e
          · exact h i (by omega)
        · exact .inr ⟨k, h, by omega, fun _ => e⟩
      · exact .inr h
  rcases h _ (Nat.le_refl _) with h | h
  · exact ⟨_, h, Nat.le_refl _, fun h2 => absurd h2 (by omega)⟩
  · exact h
theorem FirstQ.iff {q : Nat → Nat → Nat → Bool} {n T : Nat} (h : FirstQ q n T) : T = n * n * n ↔ ∀ i, i < n * n * n → qAt q n i = false :=
  ⟨fun e i hi => h.1 i (by omega), h.all⟩
end Go.Proofs.Ytbhlcfcmjildmaa
