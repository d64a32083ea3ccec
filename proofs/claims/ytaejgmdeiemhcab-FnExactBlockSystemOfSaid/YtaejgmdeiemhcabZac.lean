import Derived.Test.YtaejgmdeiemhcabZaa
import Derived.Test.YtaejgmdeiemhcabZy
import Derived.Test.YtaejgmdeiemhcabProg
import Derived.Test.YtaejgmdeiemhcabZa
import Derived.Laws.BitsLemmas
namespace Go.Proofs.Ytaejgmdeiemhcab
open Go Go.RowKit
set_option maxHeartbeats 4000000
/-- The classes as a list of numbers that the closure has a box for. -/
def jgSt (sl t : TypeId) (bx g n c : Nat) (W : World) (L : List Int) : Prop := Blk W bx sl [.slice (some ⟨g, 0, none⟩) n c] ∧ OwnB t W g L
theorem jgSt.keep {sl t : TypeId} {bx g n c lo hi : Nat} (hb : lo ≤ bx ∧ bx < hi) (hg : lo ≤ g ∧ g < hi) : ∀ W W' L, jgSt sl t bx g n c W L → (∀ k, lo ≤ k → k < hi → W'.heap[k]? = W.heap[k]?) → jgSt sl t bx g n c W' L :=
  fun _ _ _ h hk => ⟨(hk bx hb.1 hb.2).trans h.1, h.2.of_block (hk g hg.1 hg.2)⟩
theorem touch_set {lo hi : Nat} {w w' : World} (h : Touch lo hi w w') {p : Addr} (hp : lo ≤ p.block ∧ p.block < hi) (v : Value) : Touch lo hi w (w'.setCell p v) :=
  ⟨h.os, h.tape, h.output, by have := h.size; simpa [World.setCell] using this, fun k hk hne => by
    rw [Below.heap_setCell w' p v k (by omega)]
    exact h.block k hk hne⟩
/-- After i elements. -/
def jgTo (L : List Int) (k l : Int) (i : Nat) : List Int := (joinL L k l).take i ++ L.drop i
theorem jgTo_length (L : List Int) (k l : Int) (i : Nat) (h : i ≤ L.length) : (jgTo L k l i).length = L.length := by simp [jgTo, joinL_length]; omega
theorem jgTo_at (L : List Int) (k l : Int) (i : Nat) (h : i < L.length) : (jgTo L k l i).getD i 0 = L.getD i 0 := by
  unfold jgTo
  have h1 : ((joinL L k l).take i).length = i := by simp [joinL_length]; omega
  simp [List.getElem?_append_right, h1]
theorem jgTo_set (L : List Int) (k l : Int) (i : Nat) (h : i < L.length) (he : L.getD i 0 = l) : (jgTo L k l i).set i k = jgTo L k l (i + 1) := by
  unfold jgTo
  have h1 : ((joinL L k l).take i).length = i := by simp [joinL_length]; omega
  have hj : i < (joinL L k l).length := by rw [joinL_length]; exact h
  have he2 : (joinL L k l)[i] = k := by
    have h2 : L[i] = l := by simpa [h] using he
    simp [joinL, h2]
  rw [List.set_append_right _ _ (by omega), h1, Nat.sub_self, List.drop_eq_getElem_cons h, List.set_cons_zero, List.take_succ_eq_append_getElem hj, he2, List.append_assoc]
  rfl
theorem jgTo_same (L : List Int) (k l : Int) (i : Nat) (h : i < L.length) (he : ¬ L.getD i 0 = l) : jgTo L k l i = jgTo L k l (i + 1) := by
  unfold jgTo
  have hj : i < (joinL L k l).length := by rw [joinL_length]; exact h
  have he2 : (joinL L k l)[i] = L[i] := by
    have h2 : ¬ L[i] = l := by simpa [h] using he
    simp [joinL, h2]
  rw [List.drop_eq_getElem_cons h, List.take_succ_eq_append_getElem hj, he2, List.append_assoc]
  rfl
theorem jgTo_end (L : List Int) (k l : Int) : jgTo L k l L.length = joinL L k l := by
  unfold jgTo
  rw [List.drop_length, List.append_nil]
  exact List.take_of_length_le (by rw [joinL_length]; exact Nat.le_refl _)
theorem joinL_self (L : List Int) (k : Int) : joinL L k k = L := by
  unfold joinL
  have h : (fun v : Int => if v = k then k else v) = id := by
    funext v
    by_cases e : v = k <;> simp [e]
  rw [h, List.map_id]
set_option maxRecDepth 100000 in
theorem joining_any (n bx g c lo hi : Nat) (hn : n ≤ 12) (_hb : lo ≤ bx ∧ bx < hi) (hg : lo ≤ g ∧ g < hi) (hne : bx ≠ g) : JoinFn Try.prog 132 #[] #[.pointer (some ⟨bx, 0, none⟩)] n lo hi (jgSt 32 2 bx g n c) := by
  intro W L a b ha hb2 hl hst hhi
  obtain ⟨hbx, how⟩ := hst
  have hal : Below W.heap.size W (W.alloc (.cells #[.int .i64 (a : Int), .int .i64 (b : Int)] 71)) := (Below.refl _ _).alloc (Nat.le_refl _) _
  have HT0 := hide (touch_of_below (lo := lo) (hi := hi) hal)
  have HK0 := hide (Blk.new W 71 [.int .i64 (a : Int), .int .i64 (b : Int)])
  have HX0 := hide (hbx.later hal)
  have HO0 := hide (how.later hal how.lt)
  have HL := hide hl
  obtain ⟨k, hk⟩ : ∃ k, lb L a = k := ⟨_, rfl⟩
  obtain ⟨l, hl2⟩ : ∃ l, lb L b = l := ⟨_, rfl⟩
  have ca := HO0.out.cell (i := a) (by rw [hl]; exact ha)
  have cb := HO0.out.cell (i := b) (by rw [hl]; exact hb2)
  rw [show L.getD a 0 = k from hk] at ca
  rw [show L.getD b 0 = l from hl2] at cb
  have HKA := hide hk
  have HLB := hide hl2
  rw [hk, hl2]
  have k0 := HK0.out.cell 0 _ rfl
  have k1 := HK0.out.cell 1 _ rfl
  have x0 := HX0.out.cell 0 _ rfl
  have haz : (a : Int) < n := by omega
  have hbz : (b : Int) < n := by omega
  clear hbx how hal hl hk hl2
  show Calls Try.prog 132 #[.agg #[.int .i64 (a : Int), .int .i64 (b : Int)], .pointer (some ⟨bx, 0, none⟩)] W _
  go_enter Try.func132, Try.ntmps132
  go_wp2_with fail
  go_quiet (fail)
  obtain ⟨w5, hw5⟩ : ∃ w5, (W.alloc (.cells #[.int .i64 (a : Int), .int .i64 (b : Int)] 71)).drewN nq = w5 := ⟨_, rfl⟩
  have hq5 : Below (W.alloc (.cells #[.int .i64 (a : Int), .int .i64 (b : Int)] 71)).heap.size (W.alloc (.cells #[.int .i64 (a : Int), .int .i64 (b : Int)] 71)) w5 := by rw [← hw5]; exact bdrewN (Below.refl _ _) nq
  have HT5 := hide (HT0.out.trans (touch_of_below hq5))
  have HX5 := hide (HX0.out.later hq5)
  have HO5 : Hid (OwnB 2 w5 g (jgTo L k l 0)) := hide (by have h := HO0.out.later hq5 HO0.out.lt; simpa [jgTo] using h)
  rw [hw5]
  clear k0 k1 x0 ca cb hw5 hq5 HT0 HX0 HO0 HK0
  have x0 := HX5.out.cell 0 _ rfl
  go_wp2_with fail
  clear x0
  go_loopw [20] (fun i wr => ∃ j : Nat, j ≤ n ∧ i = .int .i64 j ∧ Touch lo hi W wr ∧ Blk wr bx 32 [.slice (some ⟨g, 0, none⟩) n c] ∧ OwnB 2 wr g (jgTo L k l j)) (fun i _ => n - (intOf i).toNat)
  case atStart => exact ⟨0, Nat.zero_le _, rfl, HT5.out, HX5.out, HO5.out⟩
  case round =>
    clear HT5 HX5 HO5
    obtain ⟨j, hj, rfl, ht, hx, ho⟩ := hrel
    have HT := hide ht
    have HX := hide hx
    have HO := hide ho
    clear ht hx ho
    by_cases hlt : j < n
    · have hjz : (j : Int) < n := by omega
      have hjl : j < L.length := by rw [HL.out]; exact hlt
      have hc := HO.out.cell (i := j) (by rw [jgTo_length L k l j (by omega)]; exact hjl)
      rw [jgTo_at L k l j hjl] at hc
      obtain ⟨v, hv⟩ : ∃ v, L.getD j 0 = v := ⟨_, rfl⟩
      rw [hv] at hc
      have HV := hide hv
      have hf := HO.out.frozen j
      have x0 := HX.out.cell 0 _ rfl
      clear hv
      by_cases he : v = l
      · subst he
        have hbe : (v == v) = true := by simp
        have hset := HO.out.set j k (by rw [jgTo_length L k v j (by omega)]; exact hjl)
        rw [jgTo_set L k v j hjl HV.out] at hset
        have HS := hide hset
        clear hset
        go_wp2_with fail
        go_roundw
        case rel => exact ⟨j + 1, by omega, by go_num, touch_set HT.out hg _, HX.out.far hne _, HS.out⟩
        case measure => simp [intOf]; omega
      · have hbe : (v == l) = false := by simpa using he
        have hsame := jgTo_same L k l j hjl (by rw [HV.out]; exact he)
        have HS := hide hsame
        clear hsame
        go_wp2_with fail
        go_roundw
        case rel => exact ⟨j + 1, by omega, by go_num, HT.out, HX.out, by rw [← HS.out]; exact HO.out⟩
        case measure => simp [intOf]; omega
    · have hjn : j = n := by omega
      subst hjn
      have hend : jgTo L k l j = joinL L k l := by rw [← HL.out]; exact jgTo_end L k l
      have HE : Hid (OwnB 2 wr g (joinL L k l)) := hide (by rw [← hend]; exact HO.out)
      clear hend
      by_cases he : k = l
      · subst he
        have hbe : (k != k) = false := by simp
        rw [joinL_self] at HE
        go_wp2_with fail
        go_ret
        exact ⟨rfl, HT.out, HX.out, HE.out⟩
      · have hbe : (k != l) = true := by simpa using he
        go_wp2_with fail
        go_ret
        exact ⟨true, rfl, HT.out, .inr ⟨rfl, he, k, l, .inl ⟨rfl, rfl⟩, HX.out, HE.out⟩⟩
end Go.Proofs.Ytaejgmdeiemhcab
namespace Go.Proofs.Ytaejgmdeiemhcab
open Go Go.RowKit

/-- Element x is in the set. -/
def inb (S x : Nat) : Prop := S.testBit x = true
instance (S x : Nat) : Decidable (inb S x) := inferInstanceAs (Decidable (_ = _))
theorem inb_iff (S x : Nat) : inb S x ↔ S / 2 ^ x % 2 = 1 := by
  unfold inb
  rw [Nat.testBit_eq_decide_div_mod_eq]
  simp
theorem inb_eq {S T : Nat} (h : ∀ x, inb S x ↔ inb T x) : S = T := by
  apply Nat.eq_of_testBit_eq
  intro i
  have h1 := h i
  unfold inb at h1
  cases hs : S.testBit i <;> cases ht : T.testBit i <;> simp_all
theorem inb_zero (x : Nat) : ¬ inb 0 x := by simp [inb]
theorem inb_or (S p x : Nat) : inb (S ||| 2 ^ p) x ↔ inb S x ∨ x = p := by
  unfold inb
  rw [Nat.testBit_or, Nat.testBit_two_pow]
  simp
  constructor
  · rintro (h | h)
    · exact .inl h
    · exact .inr h.symm
  · rintro (h | h)
    · exact .inl h
    · exact .inr h.symm
theorem inb_lt {S x k : Nat} (hS : S < 2 ^ k) (h : inb S x) : x < k := by
  by_cases hx : x < k
  · exact hx
  · have : S.testBit x = false := Nat.testBit_lt_two_pow (Nat.lt_of_lt_of_le hS (Nat.pow_le_pow_right (by decide) (by omega)))
    unfold inb at h
    rw [this] at h
    cases h
theorem set_lt {S k : Nat} (h : ∀ x, inb S x → x < k) : S < 2 ^ k := by
  apply Nat.lt_pow_two_of_testBit
  intro i hi
  by_cases hb : S.testBit i = true
  · exact absurd (h i hb) (by omega)
  · simpa using hb
theorem or_lt {S p k : Nat} (h : S < 2 ^ k) (hp : p < k) : S ||| 2 ^ p < 2 ^ k := Nat.or_lt_two_pow h (Nat.pow_lt_pow_right (by decide) hp)
theorem set_sub_le {S T : Nat} (h : ∀ x, inb S x → inb T x) : S ≤ T := by
  have e : S &&& T = S := by
    apply Nat.eq_of_testBit_eq
    intro i
    rw [Nat.testBit_and]
    cases hs : S.testBit i
    · simp
    · have := h i hs
      unfold inb at this
      simp [this]
  rw [← e]
  exact Nat.and_le_right
theorem bt_shr (S x : Nat) (h : x ≤ 64) : (S : Int) / 2 ^ min x 64 = ((S / 2 ^ x : Nat) : Int) := by
  rw [Nat.min_eq_left h]; simp
theorem bt_one (q : Nat) (h : q < 4611686018427387904) : bits .and .i64 (q : Int) 1 = ((q % 2 : Nat) : Int) := by
  have h1 := (bits_nat .i64 62 (by decide) (fun n h0 h1 => by rw [IntKind.wrap_i64]; omega) q 1 (by simpa using h) (by decide)).1
  rw [show ((1 : Int)) = ((1 : Nat) : Int) by rfl, h1, Nat.and_one_is_mod]
theorem bt_in {S k : Nat} (h : S < 4611686018427387904) (hi : inb S k) : bits .and .i64 ((S : Int) / 2 ^ k) 1 = 1 := by
  have e : (S : Int) / 2 ^ k = ((S / 2 ^ k : Nat) : Int) := by simp
  rw [e, bt_one _ (Nat.lt_of_le_of_lt (Nat.div_le_self _ _) h), (inb_iff S k).1 hi]; rfl
theorem bt_out {S k : Nat} (h : S < 4611686018427387904) (hi : ¬ inb S k) : bits .and .i64 ((S : Int) / 2 ^ k) 1 = 0 := by
  have e : (S : Int) / 2 ^ k = ((S / 2 ^ k : Nat) : Int) := by simp
  have h2 : S / 2 ^ k % 2 = 0 := by
    rcases Nat.mod_two_eq_zero_or_one (S / 2 ^ k) with h2 | h2
    · exact h2
    · exact absurd ((inb_iff S k).2 h2) hi
  rw [e, bt_one _ (Nat.lt_of_le_of_lt (Nat.div_le_self _ _) h), h2]; rfl
theorem bt_or (S p : Nat) (h : S < 4611686018427387904) (hp : p < 4611686018427387904) : bits .or .i64 (S : Int) (p : Int) = ((S ||| p : Nat) : Int) :=
  (bits_nat .i64 62 (by decide) (fun n h0 h1 => by rw [IntKind.wrap_i64]; omega) S p (by simpa using h) (by simpa using hp)).2
theorem bt_shl (x : Nat) (h : x ≤ 64) : (2 : Int) ^ min x 64 = ((2 ^ x : Nat) : Int) := by
  rw [Nat.min_eq_left h]; simp

/-- A set that has x > y with any two of its elements. -/
def ClosedF (f : List (List Int)) (S : Nat) : Prop := ∀ x y, inb S x → inb S y → inb S (ap f x y)
/-- The set with all x > y. -/
def GrF (f : List (List Int)) (S V : Nat) : Prop := ∀ t, inb V t ↔ inb S t ∨ ∃ x y, inb S x ∧ inb S y ∧ ap f x y = t
theorem GrF.closed {f : List (List Int)} {S V : Nat} (h : GrF f S V) : V = S ↔ ClosedF f S := by
  constructor
  · rintro rfl x y hx hy
    exact (h _).2 (.inr ⟨x, y, hx, hy, rfl⟩)
  · intro hc
    apply inb_eq
    intro t
    rw [h t]
    constructor
    · rintro (h1 | ⟨x, y, hx, hy, rfl⟩)
      · exact h1
      · exact hc x y hx hy
    · exact .inl
/-- The elements of a set, in ascending order. -/
def mems (k S : Nat) : List Nat := (List.range k).filter fun x => S.testBit x
theorem mems_mem (k S x : Nat) : x ∈ mems k S ↔ x < k ∧ inb S x := by simp [mems, inb]
theorem mems_succ (k S : Nat) : mems (k + 1) S = if inb S k then mems k S ++ [k] else mems k S := by
  unfold mems
  rw [List.range_succ, List.filter_append]
  by_cases h : inb S k
  · have h2 : S.testBit k = true := h
    rw [if_pos h]; simp [h2]
  · have h2 : S.testBit k = false := by simpa [inb] using h
    rw [if_neg h]; simp [h2]
theorem mems_length (k S : Nat) : (mems k S).length ≤ k := by
  unfold mems
  have := List.length_filter_le (fun x => S.testBit x) (List.range k)
  simpa using this
theorem mems_more {S k : Nat} (hS : S < 2 ^ k) (j : Nat) (h : k ≤ j) : mems j S = mems k S := by
  induction j with
  | zero => have : k = 0 := by omega
            subst this; rfl
  | succ j ih =>
    by_cases e : k = j + 1
    · rw [e]
    · rw [mems_succ, if_neg (fun h2 => by have := inb_lt hS h2; omega), ih (by omega)]
def memL (k S : Nat) : List Int := (mems k S).map fun (x : Nat) => (x : Int)
theorem memL_length (k S : Nat) : (memL k S).length = (mems k S).length := by simp [memL]
theorem memL_getD (k S i : Nat) (h : i < (mems k S).length) : (memL k S).getD i 0 = ((mems k S).getD i 0 : Nat) := by simp [memL, h]
theorem memL_succ (k S : Nat) : ints (memL (k + 1) S) = if inb S k then ints (memL k S) ++ [.int .i64 k] else ints (memL k S) := by
  unfold memL
  rw [mems_succ]
  split
  · simp [ints]
  · rfl
end Go.Proofs.Ytaejgmdeiemhcab
