import Derived.Test.YtelildgngkajnaaZp
import Derived.Test.YtelildgngkajnaaZa
import Derived.Laws.BitsLemmas
import Derived.Test.YtelildgngkajnaaProg
import Derived.Test.YtelildgngkajnaaZf
import Derived.Test.YtelildgngkajnaaZc
import Derived.Test.YtelildgngkajnaaZm
namespace Go.Proofs.Ytelildgngkajnaa
open Go Go.RowKit

/-- Element x is in the set. -/
def inb (S x : Nat) : Prop := S.testBit x = true
instance (S x : Nat) : Decidable (inb S x) := inferInstanceAs (Decidable (_ = _))
theorem inb_iff (S x : Nat) : inb S x ↔ S / 2 ^ x % 2 = 1 := by
  unfold inb
  rw [Nat.testBit_eq_decide_div_mod_eq]
  simp
theorem inb_eq {S T : Nat} (h : ∀ x, inb S x ↔ inb T x) : S = T := by
  apply Nat.eq_of_testBit_eq
  intro i
  have h1 := h i
  unfold inb at h1
  cases hs : S.testBit i <;> cases ht : T.testBit i <;> simp_all
theorem inb_zero (x : Nat) : ¬ inb 0 x := by simp [inb]
theorem inb_or (S p x : Nat) : inb (S ||| 2 ^ p) x ↔ inb S x ∨ x = p := by
  unfold inb
  rw [Nat.testBit_or, Nat.testBit_two_pow]
  simp
  constructor
  · rintro (h | h)
    · exact .inl h
    · exact .inr h.symm
  · rintro (h | h)
    · exact .inl h
    · exact .inr h.symm
theorem inb_lt {S x k : Nat} (hS : S < 2 ^ k) (h : inb S x) : x < k := by
  by_cases hx : x < k
  · exact hx
  · have : S.testBit x = false := Nat.testBit_lt_two_pow (Nat.lt_of_lt_of_le hS (Nat.pow_le_pow_right (by decide) (by omega)))
    unfold inb at h
    rw [this] at h
    cases h
theorem set_lt {S k : Nat} (h : ∀ x, inb S x → x < k) : S < 2 ^ k := by
  apply Nat.lt_pow_two_of_testBit
  intro i hi
  by_cases hb : S.testBit i = true
  · exact absurd (h i hb) (by omega)
  · simpa using hb
theorem or_lt {S p k : Nat} (h : S < 2 ^ k) (hp : p < k) : S ||| 2 ^ p < 2 ^ k := Nat.or_lt_two_pow h (Nat.pow_lt_pow_right (by decide) hp)
theorem set_sub_le {S T : Nat} (h : ∀ x, inb S x → inb T x) : S ≤ T := by
  have e : S &&& T = S := by
    apply Nat.eq_of_testBit_eq
    intro i
    rw [Nat.testBit_and]
    cases hs : S.testBit i
    · simp
    · have := h i hs
      unfold inb at this
      simp [this]
  rw [← e]
  exact Nat.and_le_right
theorem bt_shr (S x : Nat) (h : x ≤ 64) : (S : Int) / 2 ^ min x 64 = ((S / 2 ^ x : Nat) : Int) := by
  rw [Nat.min_eq_left h]; simp
theorem bt_one (q : Nat) (h : q < 4611686018427387904) : bits .and .i64 (q : Int) 1 = ((q % 2 : Nat) : Int) := by
  have h1 := (bits_nat .i64 62 (by decide) (fun n h0 h1 => by rw [IntKind.wrap_i64]; omega) q 1 (by simpa using h) (by decide)).1
  rw [show ((1 : Int)) = ((1 : Nat) : Int) by rfl, h1, Nat.and_one_is_mod]
theorem bt_in {S k : Nat} (h : S < 4611686018427387904) (hi : inb S k) : bits .and .i64 ((S : Int) / 2 ^ k) 1 = 1 := by
  have e : (S : Int) / 2 ^ k = ((S / 2 ^ k : Nat) : Int) := by simp
  rw [e, bt_one _ (Nat.lt_of_le_of_lt (Nat.div_le_self _ _) h), (inb_iff S k).1 hi]; rfl
theorem bt_out {S k : Nat} (h : S < 4611686018427387904) (hi : ¬ inb S k) : bits .and .i64 ((S : Int) / 2 ^ k) 1 = 0 := by
  have e : (S : Int) / 2 ^ k = ((S / 2 ^ k : Nat) : Int) := by simp
  have h2 : S / 2 ^ k % 2 = 0 := by
    rcases Nat.mod_two_eq_zero_or_one (S / 2 ^ k) with h2 | h2
    · exact h2
    · exact absurd ((inb_iff S k).2 h2) hi
  rw [e, bt_one _ (Nat.lt_of_le_of_lt (Nat.div_le_self _ _) h), h2]; rfl
theorem bt_or (S p : Nat) (h : S < 4611686018427387904) (hp : p < 4611686018427387904) : bits .or .i64 (S : Int) (p : Int) = ((S ||| p : Nat) : Int) :=
  (bits_nat .i64 62 (by decide) (fun n h0 h1 => by rw [IntKind.wrap_i64]; omega) S p (by simpa using h) (by simpa using hp)).2
theorem bt_shl (x : Nat) (h : x ≤ 64) : (2 : Int) ^ min x 64 = ((2 ^ x : Nat) : Int) := by
  rw [Nat.min_eq_left h]; simp

/-- A set that has x > y with any two of its elements. -/
def ClosedF (f : List (List Int)) (S : Nat) : Prop := ∀ x y, inb S x → inb S y → inb S (ap f x y)
/-- The set with all x > y. -/
def GrF (f : List (List Int)) (S V : Nat) : Prop := ∀ t, inb V t ↔ inb S t ∨ ∃ x y, inb S x ∧ inb S y ∧ ap f x y = t
theorem GrF.closed {f : List (List Int)} {S V : Nat} (h : GrF f S V) : V = S ↔ ClosedF f S := by
  constructor
  · rintro rfl x y hx hy
    exact (h _).2 (.inr ⟨x, y, hx, hy, rfl⟩)
  · intro hc
    apply inb_eq
    intro t
    rw [h t]
    constructor
    · rintro (h1 | ⟨x, y, hx, hy, rfl⟩)
      · exact h1
      · exact hc x y hx hy
    · exact .inl
/-- The elements of a set, in ascending order. -/
def mems (k S : Nat) : List Nat := (List.range k).filter fun x => S.testBit x
theorem mems_mem (k S x : Nat) : x ∈ mems k S ↔ x < k ∧ inb S x := by simp [mems, inb]
theorem mems_succ (k S : Nat) : mems (k + 1) S = if inb S k then mems k S ++ [k] else mems k S := by
  unfold mems
  rw [List.range_succ, List.filter_append]
  by_cases h : inb S k
  · have h2 : S.testBit k = true := h
    rw [if_pos h]; simp [h2]
  · have h2 : S.testBit k = false := by simpa [inb] using h
    rw [if_neg h]; simp [h2]
theorem mems_length (k S : Nat) : (mems k S).length ≤ k := by
  unfold mems
  have := List.length_filter_le (fun x => S.testBit x) (List.range k)
  simpa using this
theorem mems_more {S k : Nat} (hS : S < 2 ^ k) (j : Nat) (h : k ≤ j) : mems j S = mems k S := by
  induction j with
  | zero => have : k = 0 := by omega
            subst this; rfl
  | succ j ih =>
    by_cases e : k = j + 1
    · rw [e]
    · rw [mems_succ, if_neg (fun h2 => by have := inb_lt hS h2; omega), ih (by omega)]
def memL (k S : Nat) : List Int := (mems k S).map fun (x : Nat) => (x : Int)
theorem memL_length (k S : Nat) : (memL k S).length = (mems k S).length := by simp [memL]
theorem memL_getD (k S i : Nat) (h : i < (mems k S).length) : (memL k S).getD i 0 = ((mems k S).getD i 0 : Nat) := by simp [memL, h]
theorem memL_succ (k S : Nat) : ints (memL (k + 1) S) = if inb S k then ints (memL k S) ++ [.int .i64 k] else ints (memL k S) := by
  unfold memL
  rw [mems_succ]
  split
  · simp [ints]
  · rfl
end Go.Proofs.Ytelildgngkajnaa
namespace Go.Proofs.Ytelildgngkajnaa
open Go Go.RowKit
set_option maxHeartbeats 1000000

theorem ksize_any (A : Option Addr) (n c : Nat) (w : World) (_hn : n ≤ 1048576) :
    Calls Try.prog 89 #[.agg #[.slice A n c]] w fun e w' => e = .returned (.int .i64 n) ∧ Below w.heap.size w w' := by
  have HB0 := hide ((Below.refl _ w).alloc (Nat.le_refl _) (Obj.cells #[Value.slice A n c] 53))
  go_enter Try.func89, Try.ntmps89
  go_wp2_with fail
  go_ret
  exact ⟨rfl, HB0.out⟩

theorem act_any (A : Option Addr) (n c : Nat) (f : List (List Int)) (x y u : Nat) (w : World) (hn : f.length = n) (ht : Tbl f) (hr : Rd2 w A f) (hx : x < n) (hy : y < n) (hu : ap f x y = u) :
    Calls Try.prog 93 #[.agg #[.slice A n c], .int .i64 x, .int .i64 y] w fun e w' => e = .returned (.int .i64 u) ∧ Below w.heap.size w w' := by
  have h12 : n ≤ 12 := by rw [← hn]; exact ht.2.1
  obtain ⟨b, o, rfl, hb, hc⟩ := ht.cells hr hn
  obtain ⟨bx, ox, cx, h1, h2, h3⟩ := hc x hx
  have h4 := h3 y hy
  rw [hu] at h4
  have hbb := ((Below.refl _ w).alloc (Nat.le_refl _) (Obj.cells #[Value.slice (some ⟨b, o, none⟩) n c] 53))
  have HB0 := hide hbb
  have a4 := (hbb.cell (p := ⟨b, o + x, none⟩) hb).trans h1
  have a6 := (hbb.cell (p := ⟨bx, ox + y, none⟩) h2).trans h4
  have hxz : (x : Int) < n := by omega
  have hyz : (y : Int) < n := by omega
  have hxz0 : (0 : Int) ≤ x := by omega
  have hyz0 : (0 : Int) ≤ y := by omega
  clear hbb h1 h3 h4 hc hu hr ht hn
  go_enter Try.func93, Try.ntmps93
  go_wp2_with fail
  go_ret
  exact ⟨rfl, HB0.out⟩
end Go.Proofs.Ytelildgngkajnaa
namespace Go.Proofs.Ytelildgngkajnaa
open Go Go.RowKit
set_option maxHeartbeats 2000000

set_option maxRecDepth 100000 in
theorem faultK_any (A : Option Addr) (n c : Nat) (f : List (List Int)) (T : Nat) (w : World) (hn : f.length = n) (ht : Tbl f) (hr : Rd2 w A f) (hT : FirstK f n T) :
    Calls Try.prog 130 #[.slice A n c] w fun e w' => (T = n * n * n ∧ e = .returned (.slice none 0 0) ∧ Below w.heap.size w w') ∨ (T < n * n * n ∧ ∃ g, e = .returned (.slice (some ⟨g, 0, none⟩) 3 3) ∧ Below w.heap.size w w' ∧ w.heap.size ≤ g ∧ OwnB 2 w' g (lst3 (trip n T))) := by
  have h1 : 1 ≤ n := by rw [← hn]; exact ht.1
  have h12 : n ≤ 12 := by rw [← hn]; exact ht.2.1
  obtain ⟨b, o, rfl, hb, hc⟩ := ht.cells hr hn
  have HC := hide hc
  have HN := hide hn
  have HTB := hide ht
  have HT := hide hT
  clear hn ht hr hT hc
  go_enter Try.func130, Try.ntmps130
  go_wp2_with fail
  go_loopw [4] (fun i wr => ∃ x : Nat, x ≤ n ∧ i = .int .i64 x ∧ Quiet w wr ∧ ∀ i, i < x * n * n → Rk3 f n i) (fun i _ => n - (intOf i).toNat)
  case atStart => exact ⟨0, Nat.zero_le _, rfl, Quiet.refl _, fun i hi => absurd hi (by omega)⟩
  case round =>
    obtain ⟨x, hx, rfl, hq, hall⟩ := hrel
    have HQ := hide hq
    clear hq
    have HALL := hide hall
    clear hall
    by_cases hlt : x < n
    · have hxz : (x : Int) < n := by omega
      go_wp2_with fail
      go_loopw [5] (fun i wi => ∃ y : Nat, y ≤ n ∧ i = .int .i64 y ∧ Quiet w wi ∧ ∀ i, i < (x * n + y) * n → Rk3 f n i) (fun i _ => n - (intOf i).toNat)
      case atStart => exact ⟨0, Nat.zero_le _, rfl, HQ.out, fun i hi => HALL.out i (by rw [Nat.add_zero] at hi; exact hi)⟩
      case round =>
        obtain ⟨y, hy, rfl, hq, halli⟩ := hrel
        have HQI := hide hq
        clear hq
        have HALLI := hide halli
        clear halli
        by_cases hlty : y < n
        · have hyz : (y : Int) < n := by omega
          go_wp2_with fail
          go_loopw [6] (fun i wi => ∃ z : Nat, z ≤ n ∧ i = .int .i64 z ∧ Quiet w wi ∧ ∀ i, i < (x * n + y) * n + z → Rk3 f n i) (fun i _ => n - (intOf i).toNat)
          case atStart => exact ⟨0, Nat.zero_le _, rfl, HQI.out, HALLI.out⟩
          case round =>
            obtain ⟨z, hzn, rfl, hq, hallj⟩ := hrel
            have HQJ := hide hq
            clear hq
            have HALLJ := hide hallj
            clear hallj
            by_cases hltz : z < n
            · have hzz : (z : Int) < n := by omega
              have hq1 := HTB.out.ap_lt HN.out hlty hltz
              have hq2 := HTB.out.ap_lt HN.out hlt hlty
              have hq3 := HTB.out.ap_lt HN.out hlt hltz
              have hat := Rk3.at (f := f) (n := n) (x := x) hlty hltz
              have HTR := hide (trip_of (n := n) (x := x) hlty hltz)
              have HKL := hide (trip_lt (n := n) hlt hlty hltz)
              obtain ⟨q1, h_1⟩ : ∃ u, ap f y z = u := ⟨_, rfl⟩
              obtain ⟨q2, h_2⟩ : ∃ u, ap f x y = u := ⟨_, rfl⟩
              obtain ⟨q3, h_3⟩ : ∃ u, ap f x z = u := ⟨_, rfl⟩
              rw [h_1, h_2, h_3] at hat
              rw [h_1] at hq1
              rw [h_2] at hq2
              rw [h_3] at hq3
              obtain ⟨q4, h_4⟩ : ∃ u, ap f x q1 = u := ⟨_, rfl⟩
              obtain ⟨q5, h_5⟩ : ∃ u, ap f q2 q3 = u := ⟨_, rfl⟩
              rw [h_4, h_5] at hat
              have HAT := hide hat
              obtain ⟨bx, ox, cx, r1, r2, r3⟩ := HC.out x hlt
              obtain ⟨by', oy, cy, s1, s2, s3⟩ := HC.out y hlty
              obtain ⟨bq, oq, cq, t1, t2, t3⟩ := HC.out q2 hq2
              have e1 := s3 z hltz
              rw [h_1] at e1
              have e2 := r3 y hlty
              rw [h_2] at e2
              have e3 := r3 z hltz
              rw [h_3] at e3
              have e4 := r3 q1 hq1
              rw [h_4] at e4
              have e5 := t3 q3 hq3
              rw [h_5] at e5
              have z1 : (q1 : Int) < n := by omega
              have z2 : (q2 : Int) < n := by omega
              have z3 : (q3 : Int) < n := by omega
              have hbl := HQJ.out.below w.heap.size
              replace r1 := (hbl.cell (p := ⟨b, o + x, none⟩) hb).trans r1
              replace s1 := (hbl.cell (p := ⟨b, o + y, none⟩) hb).trans s1
              replace t1 := (hbl.cell (p := ⟨b, o + q2, none⟩) hb).trans t1
              replace e1 := (hbl.cell (p := ⟨by', oy + z, none⟩) s2).trans e1
              replace e2 := (hbl.cell (p := ⟨bx, ox + y, none⟩) r2).trans e2
              replace e3 := (hbl.cell (p := ⟨bx, ox + z, none⟩) r2).trans e3
              replace e4 := (hbl.cell (p := ⟨bx, ox + q1, none⟩) r2).trans e4
              replace e5 := (hbl.cell (p := ⟨bq, oq + q3, none⟩) t2).trans e5
              clear hbl h_1 h_2 h_3 h_4 h_5 hat r3 s3 t3
              by_cases hcs : q4 = q5
              · have HGOOD := hide (HAT.out.2 hcs)
                subst hcs
                go_wp2_with fail
                go_quiet (fail)
                go_wp2_with fail
                go_roundw
                case rel => exact ⟨z + 1, by omega, by go_num, HQJ.out.drewN _, fun i hi => by
                  by_cases e : i = (x * n + y) * n + z
                  · rw [e]; exact HGOOD.out
                  · exact HALLJ.out i (by omega)⟩
                case measure => simp [intOf]; omega
              · have hbad : ¬ Rk3 f n ((x * n + y) * n + z) := fun h => hcs (HAT.out.1 h)
                have HTB2 := hide (HT.out.bad HALLJ.out HKL.out hbad)
                have hcz : ¬ (q4 : Int) = q5 := by omega
                clear hbad
                go_wp2_with fail
                go_quiet (fail)
                go_wp2_with fail
                refine bp_gen fun wf hwf => ?_
                have HBF : Below w.heap.size w wf := by rw [hwf]; exact ((HQJ.out.drewN nq).below _).alloc ((HQJ.out.drewN nq).below 0).size _
                have HLF : Hid (Blk wf (wr.drewN nq).heap.size 2 [.int .i64 x, .int .i64 y, .int .i64 z]) := hide (by rw [hwf]; exact Blk.new _ _ _)
                have hlo : w.heap.size ≤ (wr.drewN nq).heap.size := ((HQJ.out.drewN nq).below 0).size
                clear hwf
                go_ret
                exact .inr ⟨by rw [HTB2.out]; exact HKL.out, _, rfl, HBF, hlo, _, HLF.out, fun i hi => by
                  rw [HTB2.out, HTR.out] at hi ⊢
                  simp [lst3] at hi
                  rcases i with _ | _ | _ | i
                  · rfl
                  · rfl
                  · rfl
                  · omega⟩
            · have hzn' : z = n := by omega
              subst hzn'
              go_wp2_with fail
              go_roundw
              case rel => exact ⟨y + 1, by omega, by go_num, HQJ.out, fun i hi => HALLJ.out i (by rw [← Nat.add_assoc, Nat.add_mul _ 1, Nat.one_mul] at hi; exact hi)⟩
              case measure => simp [intOf]; omega
        · have hyn' : y = n := by omega
          subst hyn'
          go_wp2_with fail
          go_roundw
          case rel => exact ⟨x + 1, by omega, by go_num, HQI.out, fun i hi => HALLI.out i (by rw [Nat.add_mul x 1, Nat.one_mul] at hi; exact hi)⟩
          case measure => simp [intOf]; omega
    · have hxn : x = n := by omega
      subst hxn
      go_wp2_with fail
      go_ret
      exact .inl ⟨HT.out.all HALL.out, rfl, HQ.out.below _⟩
end Go.Proofs.Ytelildgngkajnaa
