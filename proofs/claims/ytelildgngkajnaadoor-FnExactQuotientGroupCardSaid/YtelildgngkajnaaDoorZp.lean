import Derived.Test.YtelildgngkajnaaDoorZl
import Derived.Test.YtelildgngkajnaaDoorZn
import Derived.Test.YtelildgngkajnaaDoorZo
import Derived.Test.YtelildgngkajnaaDoorZb
import Derived.Test.YtelildgngkajnaaDoorZg
import Derived.Test.YtelildgngkajnaaDoorZf
import Derived.Deep.AppendLies
import Derived.Deep.Cut
import Derived.Deep.RegionHeld3
import Derived.Test.YtelildgngkajnaaDoorZh
namespace Go.Proofs.YtelildgngkajnaaDoor
open Go Go.RowKit
set_option maxHeartbeats 1000000
theorem bt_andNot (a b : Nat) (ha : a < 4096) (hb : b < 4096) : bits .andNot .i64 (a : Int) (b : Int) = ((a &&& (2 ^ 64 - 1 - b) : Nat) : Int) := by
  have hx : a &&& (2 ^ 64 - 1 - b) ≤ a := Nat.and_le_left
  show IntKind.i64.wrap ((BitVec.ofInt 64 (a : Int) &&& ~~~BitVec.ofInt 64 (b : Int)).toNat : Int) = _
  rw [BitVec.toNat_and, BitVec.toNat_not]
  simp only [BitVec.ofInt_natCast, BitVec.toNat_ofNat]
  rw [Nat.mod_eq_of_lt (by omega : a < 2 ^ 64), Nat.mod_eq_of_lt (by omega : b < 2 ^ 64), IntKind.wrap_i64]
  omega
theorem andNot_zero (a b : Nat) (hb : b < 4096) (ha : a < 4096) : a &&& (2 ^ 64 - 1 - b) = 0 ↔ ∀ t, inb a t → inb b t := by
  have e : 2 ^ 64 - 1 - b = 2 ^ 64 - (b + 1) := by omega
  rw [e]
  constructor
  · intro h t hat
    have h1 : (a &&& (2 ^ 64 - (b + 1))).testBit t = false := by rw [h]; simp
    rw [Nat.testBit_and, Nat.testBit_two_pow_sub_succ (by omega)] at h1
    have h12 : t < 12 := inb_lt (k := 12) (by simpa using ha) hat
    unfold inb at hat ⊢
    rw [hat] at h1
    simpa [show t < 64 by omega] using h1
  · intro h
    apply Nat.eq_of_testBit_eq
    intro t
    rw [Nat.testBit_and, Nat.testBit_two_pow_sub_succ (by omega)]
    have h1 := h t
    unfold inb at h1
    cases ha1 : a.testBit t
    · simp
    · simp [h1 ha1]
/-- A subgroup, as a set. -/
def SubG (f : List (List Int)) (S : Nat) : Prop := inb S 0 ∧ ClosedF f S
theorem inb0 (S : Nat) : inb S 0 ↔ S % 2 = 1 := by rw [inb_iff]; simp
noncomputable def sgB (f : List (List Int)) (S : Nat) : Bool := @decide (SubG f S) (Classical.propDecidable _)
theorem sgB_iff (f : List (List Int)) (S : Nat) : sgB f S = true ↔ SubG f S := by
  unfold sgB
  exact @decide_eq_true_iff _ (Classical.propDecidable _)
noncomputable def sgN (f : List (List Int)) (k : Nat) : List Nat := (List.range k).filter fun S => sgB f S
theorem sgN_yes {f : List (List Int)} {k : Nat} (h : SubG f k) : sgN f (k + 1) = sgN f k ++ [k] := by
  unfold sgN
  have h2 := (sgB_iff f k).2 h
  rw [List.range_succ, List.filter_append]
  simp [h2]
theorem sgN_no {f : List (List Int)} {k : Nat} (h : ¬ SubG f k) : sgN f (k + 1) = sgN f k := by
  unfold sgN
  have h2 : sgB f k = false := by
    cases hb : sgB f k
    · rfl
    · exact absurd ((sgB_iff f k).1 hb) h
  rw [List.range_succ, List.filter_append]
  simp [h2]
theorem sgN_length (f : List (List Int)) (k : Nat) : (sgN f k).length ≤ k := by
  unfold sgN
  have := List.length_filter_le (fun S => sgB f S) (List.range k)
  simpa using this
noncomputable def sgL (f : List (List Int)) (k : Nat) : List Int := (sgN f k).map fun (x : Nat) => (x : Int)
theorem sgL_length (f : List (List Int)) (k : Nat) : (sgL f k).length = (sgN f k).length := by simp [sgL]
theorem sgL_yes {f : List (List Int)} {k : Nat} (h : SubG f k) : ints (sgL f (k + 1)) = ints (sgL f k) ++ [.int .i64 k] := by
  unfold sgL
  rw [sgN_yes h]
  simp [ints]
theorem sgL_no {f : List (List Int)} {k : Nat} (h : ¬ SubG f k) : sgL f (k + 1) = sgL f k := by
  unfold sgL
  rw [sgN_no h]
theorem SubG.even {f : List (List Int)} {S : Nat} (h : S % 2 = 0) : ¬ SubG f S := fun h2 => by have := (inb0 S).1 h2.1; omega
theorem sgN_one (f : List (List Int)) : sgN f 1 = [] := by rw [sgN_no (SubG.even rfl)]; rfl
theorem sgL_one (f : List (List Int)) : sgL f 1 = [] := by unfold sgL; rw [sgN_one]; rfl
def SgRes (f : List (List Int)) (zs : List Int) (code : Int) : Prop := (Grp f ∧ zs = sgL f (2 ^ f.length) ∧ code = 0) ∨ (¬ Grp f ∧ zs = [] ∧ code = 1)
theorem SgRes.ex (f : List (List Int)) : ∃ zs code, SgRes f zs code ∧ zs.length ≤ 1048576 := by
  by_cases h : Grp f
  · refine ⟨_, _, .inl ⟨h, rfl, rfl⟩, ?_⟩
    rw [sgL_length]
    have h1 := sgN_length f (2 ^ f.length)
    have h2 := pow_le f.length h.tbl.2.1
    omega
  · exact ⟨_, _, .inr ⟨h, rfl, rfl⟩, by simp⟩
/-- A set that has all conjugates of its elements. -/
def NrmF (f : List (List Int)) (S : Nat) : Prop := ∀ x y, x < f.length → inb S y → inb S (cj f x y)
/-- The error of a set. -/
def SubC (f : List (List Int)) (x : Int) (code : Int) : Prop := (Grp f ∧ (∃ S : Nat, x = S ∧ S < 2 ^ f.length ∧ SubG f S) ∧ code = 0) ∨ (¬ Grp f ∧ code = 1) ∨ (Grp f ∧ ¬ (0 ≤ x ∧ x < ((2 ^ f.length : Nat) : Int)) ∧ code = 2) ∨ (Grp f ∧ (∃ S : Nat, x = S ∧ S < 2 ^ f.length ∧ ¬ SubG f S) ∧ code = 5)
def NrRes (f : List (List Int)) (x : Int) (r : Bool) (code : Int) : Prop := (Grp f ∧ (∃ S : Nat, x = S ∧ S < 2 ^ f.length ∧ SubG f S ∧ (r = true ↔ NrmF f S)) ∧ code = 0) ∨ (code ≠ 0 ∧ r = false ∧ SubC f x code)
theorem NrRes.ex (f : List (List Int)) (x : Int) : ∃ r code, NrRes f x r code := by
  by_cases h : Grp f
  · by_cases h1 : 0 ≤ x ∧ x < ((2 ^ f.length : Nat) : Int)
    · obtain ⟨S, rfl⟩ : ∃ S : Nat, x = S := ⟨x.toNat, by omega⟩
      have hS : S < 2 ^ f.length := by have := h1.2; exact_mod_cast this
      by_cases h2 : SubG f S
      · obtain ⟨r, hr⟩ := bool_of (NrmF f S)
        exact ⟨r, 0, .inl ⟨h, ⟨S, rfl, hS, h2, hr⟩, rfl⟩⟩
      · exact ⟨false, 5, .inr ⟨by decide, rfl, .inr (.inr (.inr ⟨h, ⟨S, rfl, hS, h2⟩, rfl⟩))⟩⟩
    · exact ⟨false, 2, .inr ⟨by decide, rfl, .inr (.inr (.inl ⟨h, h1, rfl⟩))⟩⟩
  · exact ⟨false, 1, .inr ⟨by decide, rfl, .inr (.inl ⟨h, rfl⟩)⟩⟩
end Go.Proofs.YtelildgngkajnaaDoor
namespace Go.Proofs.YtelildgngkajnaaDoor
open Go Go.RowKit
open Classical
set_option maxHeartbeats 1000000
/-! Classes of which each element knows the least one. -/
structure Ldr (L : Nat → Nat) (n : Nat) : Prop where
  le : ∀ x, x < n → L x ≤ x
  idem : ∀ x, x < n → L (L x) = L x
def ldL (L : Nat → Nat) (n : Nat) : List Int := (List.range n).map fun (x : Nat) => ((L x : Nat) : Int)
theorem ldL_length (L : Nat → Nat) (n : Nat) : (ldL L n).length = n := by simp [ldL]
theorem ldL_at (L : Nat → Nat) {n x : Nat} (h : x < n) : (ldL L n).getD x 0 = ((L x : Nat) : Int) := by simp [ldL, h]
theorem ldL_lb (L : Nat → Nat) {n x : Nat} (h : x < n) : lb (ldL L n) x = ((L x : Nat) : Int) := ldL_at L h
/-- The least elements below k. -/
def rpL (L : Nat → Nat) (k : Nat) : List Nat := (List.range k).filter fun x => L x == x
theorem rpL_mem (L : Nat → Nat) (k x : Nat) : x ∈ rpL L k ↔ x < k ∧ L x = x := by simp [rpL]
theorem rpL_yes {L : Nat → Nat} {k : Nat} (h : L k = k) : rpL L (k + 1) = rpL L k ++ [k] := by
  unfold rpL
  rw [List.range_succ, List.filter_append]
  simp [h]
theorem rpL_no {L : Nat → Nat} {k : Nat} (h : ¬ L k = k) : rpL L (k + 1) = rpL L k := by
  unfold rpL
  rw [List.range_succ, List.filter_append]
  simp [h]
theorem rpL_length (L : Nat → Nat) (k : Nat) : (rpL L k).length ≤ k := by
  unfold rpL
  have := List.length_filter_le (fun x => L x == x) (List.range k)
  simpa using this
theorem rpL_nodup (L : Nat → Nat) (k : Nat) : (rpL L k).Nodup := List.Pairwise.filter _ List.nodup_range
theorem rpL_pos {L : Nat → Nat} {n : Nat} (h : Ldr L n) (hn : 1 ≤ n) : 1 ≤ (rpL L n).length := by
  have h0 : L 0 = 0 := by have := h.le 0 (by omega); omega
  exact List.length_pos_of_mem ((rpL_mem L n 0).2 ⟨by omega, h0⟩)
theorem ld_firsts {L : Nat → Nat} {n : Nat} (h : Ldr L n) (k : Nat) (hk : k ≤ n) : firstsL (ldL L n) k = (rpL L k).map fun (x : Nat) => (x : Int) := by
  induction k with
  | zero => rfl
  | succ k ih =>
    have ih := ih (by omega)
    have hkn : k < n := by omega
    show (if lb (ldL L n) k ∈ firstsL (ldL L n) k then firstsL (ldL L n) k else firstsL (ldL L n) k ++ [lb (ldL L n) k]) = _
    rw [ldL_lb L hkn, ih]
    by_cases e : L k = k
    · rw [rpL_yes e, if_neg, List.map_append, e]
      · rfl
      · rw [e]
        intro hm
        obtain ⟨a, ha, e2⟩ := List.mem_map.1 hm
        have := ((rpL_mem L k a).1 ha).1
        omega
    · rw [rpL_no e, if_pos]
      refine List.mem_map.2 ⟨L k, (rpL_mem L k _).2 ⟨?_, h.idem k hkn⟩, rfl⟩
      have := h.le k hkn
      omega
theorem idxOf_cast (l : List Nat) (x : Nat) : (l.map fun (x : Nat) => (x : Int)).idxOf (x : Int) = l.idxOf x := by
  induction l with
  | nil => rfl
  | cons a t ih =>
    have e1 : ((a : Int) == (x : Int)) = (a == x) := by
      by_cases e : a = x
      · subst e; rw [beq_self_eq_true, beq_self_eq_true]
      · rw [beq_eq_false_iff_ne.2 e, beq_eq_false_iff_ne.2 (by omega)]
    rw [List.map_cons, List.idxOf_cons, List.idxOf_cons, ih, e1]
theorem ld_num {L : Nat → Nat} {n : Nat} (h : Ldr L n) {x : Nat} (hx : x < n) : (numL (ldL L n)).getD x 0 = (((rpL L n).idxOf (L x) : Nat) : Int) := by
  have e := numL_ix (ldL L n) (x := x) (by rw [ldL_length]; exact hx)
  rw [ldL_length, ld_firsts h n (Nat.le_refl _), ldL_lb L hx, idxOf_cast] at e
  exact e
theorem ld_len (L : Nat → Nat) (n : Nat) : (numL (ldL L n)).length = n := by rw [numL_length, ldL_length]
theorem ld_cl {L : Nat → Nat} {n : Nat} (h : Ldr L n) {x : Nat} (hx : x < n) : cl (numL (ldL L n)) x = (rpL L n).idxOf (L x) := by
  unfold cl
  rw [ld_num h hx]
  simp
theorem rpL_pre {L : Nat → Nat} {n k : Nat} (hk : k ≤ n) : ∃ t, rpL L n = rpL L k ++ t := by
  induction n with
  | zero => have : k = 0 := by omega
            subst this; exact ⟨[], by simp⟩
  | succ n ih =>
    by_cases e : k = n + 1
    · subst e; exact ⟨[], by simp⟩
    · obtain ⟨t, ht⟩ := ih (by omega)
      by_cases e2 : L n = n
      · exact ⟨t ++ [n], by rw [rpL_yes e2, ht, List.append_assoc]⟩
      · exact ⟨t, by rw [rpL_no e2, ht]⟩
theorem rpL_ix {L : Nat → Nat} {n x : Nat} (hx : x < n) (e : L x = x) : (rpL L n).idxOf x = (rpL L x).length := by
  obtain ⟨t, ht⟩ := rpL_pre (L := L) (show x + 1 ≤ n by omega)
  rw [ht, rpL_yes e, List.append_assoc, List.idxOf_append, if_neg (fun hm => by have := ((rpL_mem L x x).1 hm).1; omega)]
  simp
theorem rpL_ixlt {L : Nat → Nat} {n x : Nat} (h : Ldr L n) (hx : x < n) (e : ¬ L x = x) : (rpL L n).idxOf (L x) < (rpL L x).length := by
  have hl := h.le x hx
  have hm : L x ∈ rpL L x := (rpL_mem L x _).2 ⟨by omega, h.idem x hx⟩
  obtain ⟨t, ht⟩ := rpL_pre (L := L) (show x ≤ n by omega)
  rw [ht, List.idxOf_append, if_pos hm]
  exact List.idxOf_lt_length_of_mem hm
theorem ld_nxt {L : Nat → Nat} {n : Nat} (h : Ldr L n) (k : Nat) (hk : k ≤ n) : nxt (numL (ldL L n)) k = (rpL L k).length := by
  induction k with
  | zero => rfl
  | succ k ih =>
    have ih := ih (by omega)
    have hkn : k < n := by omega
    show (if (numL (ldL L n)).getD k 0 = (nxt (numL (ldL L n)) k : Int) then nxt (numL (ldL L n)) k + 1 else nxt (numL (ldL L n)) k) = _
    rw [ld_num h hkn, ih]
    by_cases e : L k = k
    · rw [e, rpL_ix hkn e, if_pos rfl, rpL_yes e, List.length_append]
      rfl
    · have := rpL_ixlt h hkn e
      rw [rpL_no e, if_neg (by omega)]
theorem ld_canon {L : Nat → Nat} {n : Nat} (h : Ldr L n) : Canon (numL (ldL L n)) := by
  intro i hi
  rw [ld_len] at hi
  rw [ld_num h hi, ld_nxt h i (by omega)]
  refine ⟨Int.natCast_nonneg _, ?_⟩
  by_cases e : L i = i
  · rw [e, rpL_ix hi e]; exact Int.le_refl _
  · have := rpL_ixlt h hi e
    omega
/-- The least element of class k. -/
def rpN (L : Nat → Nat) (n k : Nat) : Nat := (rpL L n).getD k 0
theorem rpN_ok {L : Nat → Nat} {n k : Nat} (hk : k < (rpL L n).length) : rpN L n k < n ∧ L (rpN L n k) = rpN L n k ∧ (rpL L n).idxOf (rpN L n k) = k := by
  have hm : rpN L n k ∈ rpL L n := by
    unfold rpN
    rw [List.getD_eq_getElem?_getD, List.getElem?_eq_getElem hk]
    exact List.getElem_mem hk
  have h1 := (rpL_mem L n _).1 hm
  refine ⟨h1.1, h1.2, ?_⟩
  unfold rpN
  rw [List.getD_eq_getElem?_getD, List.getElem?_eq_getElem hk, Option.getD_some]
  exact (rpL_nodup L n).idxOf_getElem k hk
theorem ld_fstc {L : Nat → Nat} {n k : Nat} (h : Ldr L n) (hk : k < (rpL L n).length) : fstc (numL (ldL L n)) k = rpN L n k := by
  have ho := rpN_ok hk
  have e1 : cl (numL (ldL L n)) (rpN L n k) = k := by rw [ld_cl h ho.1, ho.2.1, ho.2.2]
  have := (fstc_at (ld_canon h) (i := rpN L n k) (by rw [ld_len]; exact ho.1) (fun j hj e => by
    have hjn : j < n := by omega
    rw [ld_cl h hjn, e1] at e
    have hjm : L j ∈ rpL L n := (rpL_mem L n _).2 ⟨by have := h.le j hjn; omega, h.idem j hjn⟩
    have e3 : L j = rpN L n k := by
      have a1 := List.getElem_idxOf (List.idxOf_lt_length_of_mem hjm)
      unfold rpN
      rw [List.getD_eq_getElem?_getD, List.getElem?_eq_getElem hk, Option.getD_some, ← a1]
      congr 1
    have := h.le j hjn
    omega)).1
  rw [e1] at this
  exact this
end Go.Proofs.YtelildgngkajnaaDoor
namespace Go.Proofs.YtelildgngkajnaaDoor
open Go Go.RowKit
set_option maxHeartbeats 4000000
theorem hp_below {P : Program} {F : FuncId} {args : Array Value} {w : World} {v : Ending} (h : Calls P F args w fun e w' => e = v ∧ Quiet w w') : Calls P F args w fun e w' => e = v ∧ Below w.heap.size w w' := h.mono fun _ _ ⟨he, hq⟩ => ⟨he, hq.below _⟩

end Go.Proofs.YtelildgngkajnaaDoor
namespace Go.Proofs.YtelildgngkajnaaDoor
open Go Go.RowKit
set_option maxHeartbeats 4000000
set_option maxRecDepth 100000 in
theorem innerS_any (A : Option Addr) (n c : Nat) (f : List (List Int)) (w : World) (hn : f.length = n) (hg : Grp f) (hr : Rd2 w A f) :
    Calls Tryd.prog 27 #[.slice A n c] w fun e w' => ∃ A' c', e = .returned (.slice A' n c') ∧ Below w.heap.size w w' ∧ Obj2 37 2 w.heap.size w'.heap.size w' A' (cjL f n) := by
  have HN := hide hn
  have HG := hide hg
  have HTB := hide hg.tbl
  have HRD := hide hr
  have h1 : 1 ≤ n := (hg.pos hn).1
  have h12 : n ≤ 12 := (hg.pos hn).2
  obtain ⟨b1, o1, hA, hb1w, hc1⟩ := HTB.out.cells hr hn
  subst hA
  have HC1 := hide hc1
  clear hc1 hn hg hr
  unfold cjL
  obtain ⟨H, hH⟩ : ∃ H : Nat → Nat → Int, (fun x y => (cj f x y : Int)) = H := ⟨_, rfl⟩
  rw [hH]
  have HH := hide hH
  clear hH
  obtain ⟨i0, hi, hz0, hz1, hz2⟩ := info_parts neInfo
  obtain ⟨i2, hj, hy0, hy1, hy2⟩ := info_parts neInfo2
  go_enter Tryd.func27, Tryd.ntmps27
  go_wp2_with fail
  go_loopw [3, 4] (fun v i wr => ∃ (x : Nat) (vals : List Value), x ≤ n ∧ i = .int .i64 x ∧ Below w.heap.size w wr ∧ LstV 37 2 w.heap.size wr v ((grid n H).take x) vals ∧ w.heap.size ≤ wr.heap.size) (fun _ i _ => n - (intOf i).toNat)
  case atStart => exact ⟨0, [], Nat.zero_le _, rfl, (Below.refl _ _).alloc (Nat.le_refl _) _, by simpa using LstV.start w _ _, by simp⟩
  case round =>
    obtain ⟨x, vals, hx, rfl, hbe, hlst, hsz⟩ := hrel
    have HB := hide hbe
    have HL := hide hlst
    clear hbe hlst
    by_cases hlt : x < n
    · have hxz : (x : Int) < n := by omega
      go_wp2_with fail
      obtain ⟨wo, rfl⟩ : ∃ wo : World, wo = wr := ⟨_, rfl⟩
      go_loopw [5, 6] (fun v i wi => ∃ y : Nat, y ≤ n ∧ i = .int .i64 y ∧ Below wo.heap.size wo wi ∧ wo.heap.size < wi.heap.size ∧ wi.ownsRow wo.heap.size 2 1 v y (ints ((frow n H x).take y))) (fun _ i _ => n - (intOf i).toNat)
      case atStart => exact ⟨0, Nat.zero_le _, rfl, (Below.refl _ _).alloc (Nat.le_refl _) _, by simp, by simpa [ints] using ne_empty wo _⟩
      case round =>
        obtain ⟨y, hy, rfl, hbi, hsi, hoi⟩ := hrel
        have HBI := hide hbi
        have HOI := hide hoi
        clear hbi hoi
        by_cases hlty : y < n
        · have hyz : (y : Int) < n := by omega
          have HBW := hide (HB.out.trans (HBI.out.mono HB.out.size))
          obtain ⟨v, hv⟩ : ∃ v, bk f x = v := ⟨_, rfl⟩
          have hvn : v < n := by rw [← hv]; exact HG.out.bk_lt HN.out hlt
          have hun := HG.out.lt HN.out hlt hlty
          obtain ⟨u, hu⟩ : ∃ u, ap f x y = u := ⟨_, rfl⟩
          rw [hu] at hun
          obtain ⟨r, hr0⟩ : ∃ r, ap f u v = r := ⟨_, rfl⟩
          have hpr : H x y = (r : Int) := by rw [← HH.out]; show ((cj f x y : Nat) : Int) = _; unfold cj; rw [hv, hu, hr0]
          obtain ⟨bx, ox, cx, r1, lx, g1⟩ := HC1.out x hlt
          obtain ⟨bu, ou, cu, r3, lu, g3⟩ := HC1.out u hun
          have r2 := g1 y hlty
          have r4 := g3 v hvn
          rw [hu] at r2
          rw [hr0] at r4
          have hvz : (v : Int) < n := by omega
          have huz : (u : Int) < n := by omega
          have R1 := hide r1
          have R2 := hide r2
          have R3 := hide r3
          have R4 := hide r4
          have HV := hide hv
          have HCELL := hide hpr
          clear hu hr0 hpr g1 g3 hv r1 r2 r3 r4
          have ff0 : wr.cell? ⟨b1, o1 + x, none⟩ = some (.slice (some ⟨bx, ox, none⟩) n cx) := (HBW.out.cell (p := ⟨b1, o1 + x, none⟩) hb1w).trans R1.out
          have ff1 : wr.cell? ⟨bx, ox + y, none⟩ = some (.int .i64 u) := (HBW.out.cell (p := ⟨bx, ox + y, none⟩) lx).trans R2.out
          have ff2 : wr.cell? ⟨b1, o1 + u, none⟩ = some (.slice (some ⟨bu, ou, none⟩) n cu) := (HBW.out.cell (p := ⟨b1, o1 + u, none⟩) hb1w).trans R3.out
          have ff3 : wr.cell? ⟨bu, ou + v, none⟩ = some (.int .i64 r) := (HBW.out.cell (p := ⟨bu, ou + v, none⟩) lu).trans R4.out
          go_wp2_with fail
          go_region_held3 (fun w' => w'.cell? ⟨b1, o1 + x, none⟩ = some (.slice (some ⟨bx, ox, none⟩) n cx) ∧ w'.cell? ⟨bx, ox + y, none⟩ = some (.int .i64 u) ∧ w'.cell? ⟨b1, o1 + u, none⟩ = some (.slice (some ⟨bu, ou, none⟩) n cu) ∧ w'.cell? ⟨bu, ou + v, none⟩ = some (.int .i64 r)) (first | exact ⟨ff0, ff1, ff2, ff3⟩ | go_keep) (first | (go_at_call 47; go_must (refine calls_gen fun wc hwc => ?_; (first | have hbx := drew_below hwc | have hbx := eq_below hwc); have HBJ0 := hide (HBI.out.trans (hbx.mono HBI.out.size)); have HOJ0 := hide (ownsRow_below HOI.out hbx); have hsj0 : wo.heap.size < wc.heap.size := (by have := hbx.size; omega); clear hwc hbx; refine (gq_below (backS_any _ n _ f x _ HN.out HTB.out HG.out.prm (HRD.out.later (HB.out.trans (HBJ0.out.mono HB.out.size))) (by omega))).mono ?_; rintro e wd ⟨rfl, hbd⟩; rw [HV.out]; have HBJ := hide (HBJ0.out.trans (hbd.mono HBJ0.out.size)); have HOJ := hide (ownsRow_below HOJ0.out hbd); have hsj : wo.heap.size < wd.heap.size := (by have := hbd.size; omega); clear hbd; have HBV := hide (HB.out.trans (HBJ.out.mono HB.out.size)); have ff0 : wd.cell? ⟨b1, o1 + x, none⟩ = some (.slice (some ⟨bx, ox, none⟩) n cx) := (HBV.out.cell (p := ⟨b1, o1 + x, none⟩) hb1w).trans R1.out; have ff1 : wd.cell? ⟨bx, ox + y, none⟩ = some (.int .i64 u) := (HBV.out.cell (p := ⟨bx, ox + y, none⟩) lx).trans R2.out; have ff2 : wd.cell? ⟨b1, o1 + u, none⟩ = some (.slice (some ⟨bu, ou, none⟩) n cu) := (HBV.out.cell (p := ⟨b1, o1 + u, none⟩) hb1w).trans R3.out; have ff3 : wd.cell? ⟨bu, ou + v, none⟩ = some (.int .i64 r) := (HBV.out.cell (p := ⟨bu, ou + v, none⟩) lu).trans R4.out)) | (refine step_append_lies _ (by rfl) _ _ _ (by rfl) wo.heap.size 2 i0 _ 1 8 Tryd.underlying37 hi hz0 hz1 hz2 rfl (by omega) u5 y (ints ((frow n H x).take y)) (by rfl) (HOJ.out.alloc _) ⟨wd.heap.size, 0, none⟩ 1 1 [.int .i64 r] (by rfl) (by rfl) ne_new (by simp [Value.oneCell']) (by omega) (by unfold maxLen; omega) (by omega) (by simp; omega) (wd.heap.size + 1) (by simp) ?_; go_must (intro gg cap w3 hown' hgrow _ _; have HO3 := hide hown'; have HB3 : Hid (Below wo.heap.size wo w3) := (by first | exact hide ((HBJ.out.alloc HBJ.out.size _).drew.grown hgrow (by have := HBJ.out.size; simp; omega) (fun g hg => ((HOJ.out.alloc (.cells #[.int .i64 r] 2)).lt g hg).1)) | exact hide ((HBJ.out.alloc HBJ.out.size _).grown hgrow (by have := HBJ.out.size; simp; omega) (fun g hg => ((HOJ.out.alloc (.cells #[.int .i64 r] 2)).lt g hg).1))); have hs3 : wo.heap.size < w3.heap.size := (by have := hgrow.size; simp at this; omega); have HBV3 := hide (HB.out.trans (HB3.out.mono HB.out.size)); clear hown' hgrow; have ff0 : w3.cell? ⟨b1, o1 + x, none⟩ = some (.slice (some ⟨bx, ox, none⟩) n cx) := (HBV3.out.cell (p := ⟨b1, o1 + x, none⟩) hb1w).trans R1.out; have ff1 : w3.cell? ⟨bx, ox + y, none⟩ = some (.int .i64 u) := (HBV3.out.cell (p := ⟨bx, ox + y, none⟩) lx).trans R2.out; have ff2 : w3.cell? ⟨b1, o1 + u, none⟩ = some (.slice (some ⟨bu, ou, none⟩) n cu) := (HBV3.out.cell (p := ⟨b1, o1 + u, none⟩) hb1w).trans R3.out; have ff3 : w3.cell? ⟨bu, ou + v, none⟩ = some (.int .i64 r) := (HBV3.out.cell (p := ⟨bu, ou + v, none⟩) lu).trans R4.out)))
          all_goals
            clear ff0 ff1 ff2 ff3
            go_wp2_with fail
            go_roundw
            case rel => exact ⟨y + 1, by omega, by go_num, HB3.out, hs3, by have h := HO3.out; rw [← HCELL.out, frow_take _ _ _ _ hlty] at h; exact h⟩
            case measure => simp [intOf]; omega
        · have hyn : y = n := by omega
          subst hyn
          have HTM : Hid (((grid y H).take x).length = x) := hide (by rw [List.length_take, grid_length]; omega)
          obtain ⟨A2, c2, hv2, hres2⟩ := own_shape HOI.out
          subst hv2
          have HRO := hide hres2.obj
          have HL3 := hide (HL.out.later HBI.out)
          have HRL : Hid ((frow y H x).length = y) := hide (frow_length _ _ _)
          have HTK : Hid ((frow y H x).take y = frow y H x) := hide (List.take_of_length_le (by rw [HRL.out]; exact Nat.le_refl _))
          have HOW2 : Hid (wr.ownsRow w.heap.size 37 1 u3 x vals) := hide (by have h := HL3.out.own; rw [HTM.out] at h; exact h)
          have hs3 : w.heap.size ≤ wr.heap.size := by have := HBI.out.size; omega
          clear hres2
          go_wp2_with (at_builtin; refine wpList_append_own _ rfl _ _ 22 rfl w.heap.size 37 i2 (.slice none 0 0) 1 24 Tryd.underlying22 hj hy0 hy1 hy2 rfl (by decide) _ _ _ rfl (HOW2.out.alloc _) ⟨wr.heap.size, 0, none⟩ 1 1 [.slice A2 y c2] rfl rfl ?c1 ?c2 ?c3 ?c4 ?c5 ?_)
          case c1 => exact ne_new
          case c2 => intro u hu; simp at hu; subst hu; rfl
          case c3 => unfold maxLen; omega
          case c4 => omega
          case c5 => simp; omega
          intro v' w7 hown7 hgrow7 _
          have HO7 := hide hown7
          have HG7 := hide hgrow7
          clear hown7 hgrow7
          go_wp2_with fail
          go_roundw
          case rel =>
            have hB7 : Below w.heap.size w w7 := ((HB.out.trans (HBI.out.mono HB.out.size)).alloc hs3 _).grown HG7.out (by simp; omega) (fun g hg => (HOW2.out.alloc (.cells #[.slice A2 y c2] 37)).lt g hg |>.1)
            have hpush := LstV.push (tmp := .cells #[.slice A2 y c2] 37) (A := A2) (c := c2) (r := frow y H x) (w1 := w7) (v' := v') (by decide) hsz HL.out HBI.out (by have h := HRO.out; rw [HTK.out] at h; exact h) (by rw [HTM.out, HRL.out]; exact HO7.out) HG7.out
            refine ⟨x + 1, vals ++ [.slice A2 (frow y H x).length c2], by omega, by go_num, hB7, ?_, by have := hB7.size; omega⟩
            rw [grid_take _ _ _ hlt]
            exact hpush
          case measure => simp [intOf]; omega
    · have hxn : x = n := by omega
      subst hxn
      go_wp2_with fail
      have h := HL.out
      rw [List.take_of_length_le (by rw [grid_length]; exact Nat.le_refl _)] at h
      go_ret
      obtain ⟨A', c', hv, hobj⟩ := h.shape
      rw [grid_length] at hv
      exact ⟨A', c', by rw [← hv]; rfl, HB.out, hobj⟩
theorem cjL_at {f : List (List Int)} {n x y : Nat} (hx : x < n) (hy : y < n) : ap (cjL f n) x y = cj f x y := by unfold ap cjL; rw [grid_at _ _ _ _ hx hy]; simp
theorem cjL_tbl {f : List (List Int)} {n : Nat} (hn : f.length = n) (hg : Grp f) : Tbl (cjL f n) := by
  have h1 := hg.pos hn
  refine ⟨by unfold cjL; rw [grid_length]; exact h1.1, by unfold cjL; rw [grid_length]; exact h1.2, fun i hi => ?_⟩
  unfold cjL at hi ⊢
  rw [grid_length] at hi ⊢
  refine ⟨grid_row_length _ _ _ hi, fun v hv => ?_⟩
  rw [grid_at _ _ _ _ hi hv]
  have := hg.cj_lt hn hi hv
  omega
end Go.Proofs.YtelildgngkajnaaDoor
namespace Go.Proofs.YtelildgngkajnaaDoor
open Go Go.RowKit
set_option maxHeartbeats 4000000

set_option maxRecDepth 100000 in
theorem l04Quot_any (A : Option Addr) (n c : Nat) (f : List (List Int)) (B : Option Addr) (m d : Nat) (xs : List Int) (w : World) (hn : f.length = n) (ht : Tbl f) (hr : Rd2 w A f) (hm : xs.length = m) (hx : Rd w B xs) (hp : Part f xs) (K : Nat) (hK : nxt xs m = K) :
    Calls Tryd.prog 14 #[.slice A n c, .slice B m d] w fun e w' => ∃ A' c', e = .returned (.slice A' K c') ∧ Below w.heap.size w w' ∧ Obj2 37 2 w.heap.size w'.heap.size w' A' (grid K (quH f xs)) := by
  have h1 : 1 ≤ n := by rw [← hn]; exact ht.1
  have h12 : n ≤ 12 := by rw [← hn]; exact ht.2.1
  have hmn : m = n := by rw [← hm, hp.1, hn]
  subst hmn
  obtain ⟨b, o, hB, hbw, hc⟩ := hx (by omega)
  subst hB
  obtain ⟨bt, ot, hA, hbt, hct⟩ := ht.cells hr hn
  subst hA
  have HC : Hid (∀ i : Nat, i < m → w.cell? ⟨b, o + i, none⟩ = some (.int .i64 (cl xs i)) ∧ cl xs i < m) := hide (fun i hi => by
    have h := hp.2.val (i := i) (by omega)
    rw [hm] at h
    exact ⟨by rw [← h.1]; exact hc i (by omega), h.2⟩)
  have HT := hide hct
  have HN := hide hn
  have HM := hide hm
  have HTB := hide ht
  have HCN := hide hp.2
  have hKm : K ≤ m := by rw [← hK]; exact nxt_le xs m
  have HK := hide hK
  obtain ⟨H, hH⟩ : ∃ H, quH f xs = H := ⟨_, rfl⟩
  rw [hH]
  have HH := hide hH
  clear hn ht hr hm hp hc hct hx hK hH
  have HNL : Hid (∀ i, i ≤ m → nxt xs i ≤ K) := hide (fun i hi => by rw [← HK.out]; exact nxt_mono xs i m hi)
  obtain ⟨i0, hi, hz0, hz1, hz2⟩ := info_parts neInfo
  obtain ⟨i2, hj, hy0, hy1, hy2⟩ := info_parts neInfo2
  go_enter Tryd.func14, Tryd.ntmps14
  go_wp2_with fail
  go_loopw [5, 6] (fun v i wr => ∃ (x : Nat) (vals : List Value), x ≤ m ∧ i = .int .i64 x ∧ Below w.heap.size w wr ∧ LstV 37 2 w.heap.size wr v ((grid K H).take (nxt xs x)) vals ∧ w.heap.size ≤ wr.heap.size) (fun _ i _ => m - (intOf i).toNat)
  case atStart => exact ⟨0, [], Nat.zero_le _, rfl, (Below.refl _ _).alloc (Nat.le_refl _) _, by simpa [nxt] using LstV.start w _ _, by simp⟩
  case round =>
    obtain ⟨x, vals, hx, rfl, hbe, hlst, hsz⟩ := hrel
    have HB := hide hbe
    have HL := hide hlst
    clear hbe hlst
    by_cases hlt : x < m
    · have hxz : (x : Int) < m := by omega
      have hkx := HNL.out x (by omega)
      have HTM : Hid (((grid K H).take (nxt xs x)).length = nxt xs x) := hide (by rw [List.length_take, grid_length]; omega)
      obtain ⟨Ao, co, hvo, _⟩ := HL.out.shape
      rw [HTM.out] at hvo
      subst hvo
      have hcx := (HC.out x hlt).1
      have hcm := (HC.out x hlt).2
      obtain ⟨a, ha⟩ : ∃ a, cl xs x = a := ⟨_, rfl⟩
      rw [ha] at hcx hcm
      have c0 := (HB.out.cell (p := ⟨b, o + x, none⟩) hbw).trans hcx
      have HA := hide ha
      have hnn : Hid (x < xs.length) := hide (by have := HM.out; omega)
      have hnew : a = nxt xs x → nxt xs (x + 1) = nxt xs x + 1 ∧ fstc xs (nxt xs x) = x := fun e => ⟨nxt_new HCN.out hnn.out (by rw [HA.out]; exact e), fstc_new HCN.out hnn.out (by rw [HA.out]; exact e)⟩
      have hold : a ≠ nxt xs x → nxt xs (x + 1) = nxt xs x ∧ a < nxt xs x := fun e => by have h := nxt_old HCN.out hnn.out (by rw [HA.out]; exact e); rw [HA.out] at h; exact h
      have hk1 := HNL.out (x + 1) (by omega)
      obtain ⟨q, hq⟩ : ∃ q, nxt xs x = q := ⟨_, rfl⟩
      rw [hq] at hnew hold hkx HTM HL ⊢
      have HQ := hide hq
      clear ha hcx hq
      by_cases he : a = q
      · have hn1 := (hnew he).1
        rw [hn1] at hk1
        have HN1 := hide hn1
        have HFS := hide (hnew he).2
        have hql : q < K := by omega
        have haz : ¬ (a : Int) < q := by omega
        clear hnew hold hn1 he
        go_wp2_with fail
        clear c0
        obtain ⟨wo, rfl⟩ : ∃ wo : World, wo = wr := ⟨_, rfl⟩
        go_loopw [7, 8] (fun v i wi => ∃ y : Nat, y ≤ m ∧ i = .int .i64 y ∧ Below wo.heap.size wo wi ∧ wo.heap.size < wi.heap.size ∧ wi.ownsRow wo.heap.size 2 1 v (nxt xs y) (ints ((frow K H q).take (nxt xs y)))) (fun _ i _ => m - (intOf i).toNat)
        case atStart => exact ⟨0, Nat.zero_le _, rfl, (Below.refl _ _).alloc (Nat.le_refl _) _, by simp, by simpa [ints, nxt] using ne_empty wo _⟩
        case round =>
          obtain ⟨y, hy, rfl, hbi, hsi2, hoi⟩ := hrel
          have HBI := hide hbi
          have HOI := hide hoi
          clear hbi hoi
          by_cases hlty : y < m
          · have hyz : (y : Int) < m := by omega
            have HBW := hide (HB.out.trans (HBI.out.mono HB.out.size))
            have hky := HNL.out y (by omega)
            have hky1 := HNL.out (y + 1) (by omega)
            obtain ⟨Ar, cr, hvr, _⟩ := own_shape HOI.out
            subst hvr
            have hcy := (HC.out y hlty).1
            obtain ⟨a2, ha2⟩ : ∃ a, cl xs y = a := ⟨_, rfl⟩
            rw [ha2] at hcy
            have c0 := (HBW.out.cell (p := ⟨b, o + y, none⟩) hbw).trans hcy
            have HA2 := hide ha2
            have hnn2 : Hid (y < xs.length) := hide (by have := HM.out; omega)
            have hnew : a2 = nxt xs y → nxt xs (y + 1) = nxt xs y + 1 ∧ fstc xs (nxt xs y) = y := fun e => ⟨nxt_new HCN.out hnn2.out (by rw [HA2.out]; exact e), fstc_new HCN.out hnn2.out (by rw [HA2.out]; exact e)⟩
            have hold : a2 ≠ nxt xs y → nxt xs (y + 1) = nxt xs y := fun e => (nxt_old HCN.out hnn2.out (by rw [HA2.out]; exact e)).1
            have hymx := nxt_le xs y
            obtain ⟨p, hpq⟩ : ∃ p, nxt xs y = p := ⟨_, rfl⟩
            rw [hpq] at hnew hold hky HOI hymx ⊢
            clear ha2 hcy hpq
            by_cases he2 : a2 = p
            · subst he2
              have hn2 := (hnew rfl).1
              have hf2 := (hnew rfl).2
              rw [hn2] at hky1
              have HN2 := hide hn2
              have hs1 := HTB.out.ap_lt HN.out hlt hlty
              obtain ⟨bx, ox, cx, rx, lx, gx⟩ := HT.out x hlt
              have t1 := gx y hlty
              obtain ⟨s1, e1⟩ : ∃ u, ap f x y = u := ⟨_, rfl⟩
              rw [e1] at t1 hs1
              have d1 := (HC.out s1 hs1).1
              have hpr : H q a2 = (cl xs s1 : Int) := by rw [← HH.out]; unfold quH; rw [HFS.out, hf2, e1]
              obtain ⟨v1, f1⟩ : ∃ u, cl xs s1 = u := ⟨_, rfl⟩
              rw [f1] at d1 hpr
              have HCELL := hide hpr
              replace rx := (HBW.out.cell (p := ⟨bt, ot + x, none⟩) hbt).trans rx
              replace t1 := (HBW.out.cell (p := ⟨bx, ox + y, none⟩) lx).trans t1
              replace d1 := (HBW.out.cell (p := ⟨b, o + s1, none⟩) hbw).trans d1
              have z1 : (s1 : Int) < m := by omega
              have hpl : a2 < K := by omega
              clear gx e1 f1 hpr hnew hold hf2 hn2
              go_wp2_with (at_builtin; refine wpList_append_own _ rfl _ _ 37 rfl wo.heap.size 2 i0 (.int .i64 0) 1 8 Tryd.underlying37 hi hz0 hz1 hz2 rfl (by decide) _ _ _ rfl (HOI.out.alloc _) ⟨wr.heap.size, 0, none⟩ 1 1 [.int .i64 (v1 : Int)] rfl rfl ?a1 ?a2 ?a3 ?a4 ?a5 ?_)
              try (case a1 => exact ne_new)
              try (case a2 => first | rfl | (intro u hu; simp at hu; subst hu; rfl))
              try (case a3 => first | omega | (unfold maxLen; omega))
              try (case a4 => omega)
              try (case a5 => first | omega | (simp; omega))
              intro v' w3 hown' hgrow _
              have HO3 := hide hown'
              have HB3 : Hid (Below wo.heap.size wo w3) := hide ((HBI.out.alloc HBI.out.size _).grown hgrow (by have := HBI.out.size; simp; omega) (fun g hg => ((HOI.out.alloc (.cells #[.int .i64 (v1 : Int)] 2)).lt g hg).1))
              have hs3 : wo.heap.size < w3.heap.size := by have := hgrow.size; simp at this; omega
              clear hown' hgrow
              go_wp2_with fail
              go_roundw
              case rel => exact ⟨y + 1, by omega, by go_num, HB3.out, hs3, by have h := HO3.out; rw [← HCELL.out, frow_take _ _ _ _ hpl] at h; rw [HN2.out]; exact h⟩
              case measure => simp [intOf]; omega
            · have hne : ((a2 : Int) == (p : Int)) = false := by simpa using fun h => he2 (by omega)
              have HN2 := hide (hold he2)
              clear hnew hold he2
              go_wp2_with fail
              go_roundw
              case rel => exact ⟨y + 1, by omega, by go_num, HBI.out, hsi2, by rw [HN2.out]; exact HOI.out⟩
              case measure => simp [intOf]; omega
          · have hyn : y = m := by omega
            subst hyn
            rw [HK.out] at HOI
            obtain ⟨A2, c2, hv2, hres2⟩ := own_shape HOI.out
            subst hv2
            have HRO := hide hres2.obj
            have HL3 := hide (HL.out.later HBI.out)
            have HRL : Hid ((frow K H q).length = K) := hide (frow_length _ _ _)
            have HTK : Hid ((frow K H q).take K = frow K H q) := hide (List.take_of_length_le (by rw [HRL.out]; exact Nat.le_refl _))
            have HOW2 : Hid (wr.ownsRow w.heap.size 37 1 (.slice Ao q co) q vals) := hide (by have h := HL3.out.own; rw [HTM.out] at h; exact h)
            have hs3 : w.heap.size ≤ wr.heap.size := by have := HBI.out.size; omega
            clear hres2
            go_wp2_with (at_builtin; refine wpList_append_own _ rfl _ _ 22 rfl w.heap.size 37 i2 (.slice none 0 0) 1 24 Tryd.underlying22 hj hy0 hy1 hy2 rfl (by decide) _ _ _ rfl (HOW2.out.alloc _) ⟨wr.heap.size, 0, none⟩ 1 1 [.slice A2 K c2] rfl rfl ?p1 ?p2 ?p3 ?p4 ?p5 ?_)
            try (case p1 => exact ne_new)
            try (case p2 => first | rfl | (intro u hu; simp at hu; subst hu; rfl))
            try (case p3 => first | omega | (unfold maxLen; omega))
            try (case p4 => omega)
            try (case p5 => first | omega | (simp; omega))
            intro v' w7 hown7 hgrow7 _
            have HO7 := hide hown7
            have HG7 := hide hgrow7
            clear hown7 hgrow7
            go_wp2_with fail
            go_roundw
            case rel =>
              have hB7 : Below w.heap.size w w7 := ((HB.out.trans (HBI.out.mono HB.out.size)).alloc hs3 _).grown HG7.out (by simp; omega) (fun g hg => (HOW2.out.alloc (.cells #[.slice A2 K c2] 37)).lt g hg |>.1)
              have hpush := LstV.push (tmp := .cells #[.slice A2 K c2] 37) (A := A2) (c := c2) (r := frow K H q) (w1 := w7) (v' := v') (by decide) hsz HL.out HBI.out (by have h := HRO.out; rw [HTK.out] at h; exact h) (by rw [HTM.out, HRL.out]; exact HO7.out) HG7.out
              refine ⟨x + 1, vals ++ [.slice A2 (frow K H q).length c2], by omega, by go_num, hB7, ?_, by have := hB7.size; omega⟩
              rw [HN1.out, grid_take _ _ _ hql]
              exact hpush
            case measure => simp [intOf]; omega
      · have ho := hold he
        have hn1 := ho.1
        have HN1 := hide hn1
        have haz : (a : Int) < q := by have := ho.2; omega
        clear hnew hold he ho hn1
        go_wp2_with fail
        go_roundw
        case rel => exact ⟨x + 1, vals, by omega, by go_num, HB.out, by rw [HN1.out]; exact HL.out, hsz⟩
        case measure => simp [intOf]; omega
    · have hxn : x = m := by omega
      subst hxn
      go_wp2_with fail
      have h := HL.out
      rw [HK.out, List.take_of_length_le (by rw [grid_length]; exact Nat.le_refl _)] at h
      go_ret
      obtain ⟨A', c', hv, hobj⟩ := h.shape
      rw [grid_length] at hv
      exact ⟨A', c', by rw [← hv]; rfl, HB.out, hobj⟩
end Go.Proofs.YtelildgngkajnaaDoor
