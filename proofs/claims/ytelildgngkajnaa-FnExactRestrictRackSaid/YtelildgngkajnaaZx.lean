import Derived.Test.YtelildgngkajnaaZu
import Derived.Test.YtelildgngkajnaaZf
import Derived.Shelf.Abstract
import Derived.Shelf.Lay
import Derived.Deep.Cut
import Derived.Deep.RegionHeld3
import Derived.WalkSpells
import Derived.Test.YtelildgngkajnaaProg
import Derived.Test.YtelildgngkajnaaZp
namespace Go.Proofs.Ytelildgngkajnaa
open Go Go.RowKit
set_option maxHeartbeats 2000000
/-- A function value that makes products of a table. -/
def MadeFn (P : Program) (F : FuncId) (bnd lb : Array Value) (n : Nat) (f : List (List Int)) (w : World) : Prop :=
  ∀ (W : World) (x y : Nat), x < n → y < n → Below w.heap.size w W → Calls P F (bnd ++ (#[.int .i64 x, .int .i64 y] ++ lb)) W fun e w' => e = .returned (.int .i64 (ap f x y)) ∧ Below W.heap.size W w'

set_option maxRecDepth 100000 in
theorem grownF_any (F : FuncId) (bnd lb : Array Value) (n : Nat) (f : List (List Int)) (S : Nat) (w : World) (eg : ∀ args w, (callFunc F args).run Try.prog w = .ok (.enter F args) w) (h12 : n ≤ 12) (hap : ∀ x y, x < n → y < n → ap f x y < n) (hS : S < 2 ^ n) (hm : MadeFn Try.prog F bnd lb n f w) :
    Calls Try.prog 92 #[.int .i64 S, .func (.func F) bnd lb] w fun e w' => ∃ V : Nat, e = .returned (.int .i64 V) ∧ Below w.heap.size w w' ∧ GrF f S V ∧ V < 2 ^ n := by
  have hS12 : S < 4096 := Nat.lt_of_lt_of_le hS (pow_le n h12)
  have HAP := hide hap
  have HMF := hide hm
  have HS := hide hS
  have heg := hide eg
  clear hap hm hS eg
  obtain ⟨m, hm⟩ : ∃ m, (mems 12 S).length = m := ⟨_, rfl⟩
  have hm12 : m ≤ 12 := by rw [← hm]; exact mems_length 12 S
  have HM := hide hm
  clear hm
  go_enter Try.func92, Try.ntmps92
  go_wp2_with fail
  refine (membersOf_any S _ hS12).mono ?_
  rintro e w1 ⟨B, d, rfl, hb1, hres⟩
  have HB1 := hide hb1
  have HRS := hide hres.rd
  rw [HM.out]
  clear hb1 hres
  go_wp2_with fail
  go_loopw [0, 14] (fun s i wr => ∃ (k V : Nat), k ≤ m ∧ i = .int .i64 k ∧ s = .int .i64 V ∧ Below w1.heap.size w1 wr ∧ V < 2 ^ n ∧ GrQ f S k 0 V) (fun _ i _ => m - (intOf i).toNat)
  case atStart => exact ⟨0, S, Nat.zero_le _, rfl, rfl, Below.refl _ _, HS.out, GrQ.start f S⟩
  case round =>
    obtain ⟨k, V, hk, rfl, rfl, hbe, hV, hq⟩ := hrel
    have HB := hide hbe
    have HV := hide hV
    have HQ := hide hq
    clear hbe hV hq
    by_cases hlt : k < m
    · have hkz : (k : Int) < m := by omega
      obtain ⟨b, o, hBe, hbw, hc⟩ := HRS.out (by rw [memL_length, HM.out]; omega)
      subst hBe
      have HC : Hid (∀ i, i < m → w1.cell? ⟨b, o + i, none⟩ = some (.int .i64 (mel S i))) := hide (fun i hi => by rw [← mel_getD (by rw [HM.out]; exact hi)]; exact hc i (by rw [memL_length, HM.out]; exact hi))
      clear hc
      obtain ⟨x, hx⟩ : ∃ x, mel S k = x := ⟨_, rfl⟩
      have hxn : x < n := by rw [← hx]; exact inb_lt HS.out (mel_in (by rw [HM.out]; exact hlt))
      have c0 := (HB.out.cell (p := ⟨b, o + k, none⟩) hbw).trans (HC.out k hlt)
      rw [hx] at c0
      have HX := hide hx
      clear hx
      go_wp2_with fail
      clear c0
      go_loopw [0, 20] (fun s i wr => ∃ (j V : Nat), j ≤ m ∧ i = .int .i64 j ∧ s = .int .i64 V ∧ Below w1.heap.size w1 wr ∧ V < 2 ^ n ∧ GrQ f S k j V) (fun _ i _ => m - (intOf i).toNat)
      case atStart => exact ⟨0, V, Nat.zero_le _, rfl, rfl, HB.out, HV.out, HQ.out⟩
      case round =>
        clear HB HV HQ
        obtain ⟨j, V, hj, rfl, rfl, hbe, hV, hq⟩ := hrel
        have HB := hide hbe
        have HV := hide hV
        have HQ := hide hq
        clear hbe hV hq
        by_cases hltj : j < m
        · have hjz : (j : Int) < m := by omega
          obtain ⟨y, hy⟩ : ∃ y, mel S j = y := ⟨_, rfl⟩
          have hyn : y < n := by rw [← hy]; exact inb_lt HS.out (mel_in (by rw [HM.out]; exact hltj))
          have c1 := (HB.out.cell (p := ⟨b, o + j, none⟩) hbw).trans (HC.out j hltj)
          rw [hy] at c1
          have hv := HAP.out x y hxn hyn
          obtain ⟨v, hve⟩ : ∃ v, ap f x y = v := ⟨_, rfl⟩
          rw [hve] at hv
          have HU := hide hve
          have HSTEP : Hid (GrQ f S k (j + 1) (V ||| 2 ^ v)) := hide (HQ.out.step (by rw [HM.out]; exact hlt) (by rw [HM.out]; exact hltj) (by rw [HX.out, hy]; exact hve))
          have HV2 : Hid (V ||| 2 ^ v < 2 ^ n) := hide (or_lt HV.out hv)
          have hV12 : V < 4096 := Nat.lt_of_lt_of_le HV.out (pow_le n h12)
          obtain ⟨p, hp⟩ : ∃ p, 2 ^ v = p := ⟨_, rfl⟩
          have hp12 : p < 4096 := by rw [← hp]; exact Nat.lt_of_lt_of_le (Nat.pow_lt_pow_right (by decide) (by omega : v < 12)) (Nat.le_refl _)
          have g1 : (2 : Int) ^ v = (p : Int) := by rw [← hp]; simp
          have g2 := bt_or V p (by omega) (by omega)
          rw [hp] at HSTEP HV2
          obtain ⟨V2, hV2⟩ : ∃ V2, V ||| p = V2 := ⟨_, rfl⟩
          rw [hV2] at HSTEP HV2 g2
          have hV212 : V2 < 4096 := Nat.lt_of_lt_of_le HV2.out (pow_le n h12)
          clear hy hve hp hV2
          have g3 : IntKind.i64.wrap (p : Int) = (p : Int) := IntWalk.i64_in _ (by omega)
          have hegF := fun args => heg.out args
          go_wp2_with (go_at_fn F; go_must (refine calls_gen fun wc hwc => ?_; (first | have hbx := drew_below hwc | have hbx := eq_below hwc); have HBc := hide (HB.out.trans (hbx.mono HB.out.size)); clear hwc hbx; refine (HMF.out _ x y hxn hyn (HB1.out.trans (HBc.out.mono HB1.out.size))).mono ?_; rintro e w5 ⟨rfl, hb5⟩; rw [HU.out]; have HB5 := hide (HBc.out.trans (hb5.mono HBc.out.size)); clear hb5))
          clear c1 hegF
          go_wp2_with fail
          go_roundw
          case rel => exact ⟨j + 1, V2, by omega, by go_num, rfl, HB5.out, HV2.out, HSTEP.out⟩
          case measure => simp [intOf]; omega
        · have hjm : j = m := by omega
          subst hjm
          go_wp2_with fail
          go_roundw
          case rel => exact ⟨k + 1, V, by omega, by go_num, rfl, HB.out, HV.out, GrQ.next (by rw [HM.out]; exact HQ.out)⟩
          case measure => simp [intOf]; omega
    · have hkm : k = m := by omega
      subst hkm
      go_wp2_with fail
      go_ret
      exact ⟨V, rfl, HB1.out.trans (HB.out.mono HB1.out.size), GrQ.done hS12 (by rw [HM.out]; exact HQ.out), HV.out⟩
end Go.Proofs.Ytelildgngkajnaa
namespace Go.Proofs.Ytelildgngkajnaa
open Go Go.RowKit
/-- All are elements. -/
def Els (n : Nat) (xs : List Int) : Prop := ∀ i, i < xs.length → 0 ≤ xs.getD i 0 ∧ xs.getD i 0 < (n : Int)
/-- An element of a list, as a natural number. -/
def el (xs : List Int) (i : Nat) : Nat := (xs.getD i 0).toNat
theorem Els.val {n : Nat} {xs : List Int} (h : Els n xs) {i : Nat} (hi : i < xs.length) : xs.getD i 0 = (el xs i : Int) ∧ el xs i < n := by
  have h1 := h i hi
  unfold el
  omega
/-- The set of the first k elements of a list. -/
def sN (xs : List Int) : Nat → Nat
  | 0 => 0
  | k + 1 => sN xs k ||| 2 ^ el xs k
theorem sN_in (xs : List Int) (k x : Nat) : inb (sN xs k) x ↔ ∃ i, i < k ∧ el xs i = x := by
  induction k with
  | zero => exact ⟨fun h => absurd h (inb_zero x), fun ⟨i, hi, _⟩ => by omega⟩
  | succ k ih =>
    show inb (sN xs k ||| 2 ^ el xs k) x ↔ _
    rw [inb_or, ih]
    constructor
    · rintro (⟨i, hi, e⟩ | rfl)
      · exact ⟨i, by omega, e⟩
      · exact ⟨k, by omega, rfl⟩
    · rintro ⟨i, hi, e⟩
      by_cases h : i = k
      · subst h; exact .inr e.symm
      · exact .inl ⟨i, by omega, e⟩
theorem sN_lt {n : Nat} {xs : List Int} (h : Els n xs) {k : Nat} (hk : k ≤ xs.length) : sN xs k < 2 ^ n :=
  set_lt (fun x hx => by
    obtain ⟨i, hi, rfl⟩ := (sN_in xs k x).1 hx
    exact (h.val (by omega)).2)
theorem sN_ne {xs : List Int} {k : Nat} (h : 0 < k) : sN xs k ≠ 0 := by
  intro e
  have h2 : inb (sN xs k) (el xs 0) := (sN_in xs k _).2 ⟨0, h, rfl⟩
  rw [e] at h2
  exact inb_zero _ h2

/-- A set of what holds, below n. -/
theorem set_of (P : Nat → Prop) (n : Nat) : ∃ V, V < 2 ^ n ∧ ∀ x, x < n → (inb V x ↔ P x) := by
  induction n with
  | zero => exact ⟨0, by simp, fun x hx => absurd hx (Nat.not_lt_zero _)⟩
  | succ n ih =>
    obtain ⟨V, hV, h⟩ := ih
    have hn : ¬ inb V n := fun h2 => by have := inb_lt hV h2; omega
    by_cases hp : P n
    · refine ⟨V ||| 2 ^ n, or_lt (Nat.lt_of_lt_of_le hV (Nat.pow_le_pow_right (by decide) (by omega))) (by omega), fun x hx => ?_⟩
      rw [inb_or]
      by_cases e : x = n
      · subst e; simp [hp]
      · rw [← h x (by omega)]; simp [e]
    · refine ⟨V, Nat.lt_of_lt_of_le hV (Nat.pow_le_pow_right (by decide) (by omega)), fun x hx => ?_⟩
      by_cases e : x = n
      · subst e; simp [hp, hn]
      · exact h x (by omega)
/-- V is in each set with S that is closed. -/
def Under (f : List (List Int)) (S V : Nat) : Prop := ∀ T, ClosedF f T → (∀ x, inb S x → inb T x) → ∀ x, inb V x → inb T x
/-- The least closed set with S. -/
structure LeastS (f : List (List Int)) (n S V : Nat) : Prop where
  lt : V < 2 ^ n
  closed : ClosedF f V
  up : ∀ x, inb S x → inb V x
  low : Under f S V
theorem LeastS.uniq {f : List (List Int)} {n S V V' : Nat} (h : LeastS f n S V) (h' : LeastS f n S V') : V = V' :=
  inb_eq (fun x => ⟨h.low V' h'.closed h'.up x, h'.low V h.closed h.up x⟩)
theorem LeastS.ex (f : List (List Int)) (n S : Nat) (hf : ∀ x y, x < n → y < n → ap f x y < n) (hS : S < 2 ^ n) : ∃ V, LeastS f n S V := by
  obtain ⟨V, hV, h⟩ := set_of (fun x => ∀ T, ClosedF f T → (∀ x, inb S x → inb T x) → inb T x) n
  refine ⟨V, hV, ?_, ?_, ?_⟩
  · intro x y hx hy
    have lx := inb_lt hV hx
    have ly := inb_lt hV hy
    refine (h _ (hf x y lx ly)).2 fun T hT hs => hT x y ((h x lx).1 hx T hT hs) ((h y ly).1 hy T hT hs)
  · intro x hx
    exact (h x (inb_lt hS hx)).2 fun T _ hs => hs x hx
  · intro T hT hs x hx
    exact (h x (inb_lt hV hx)).1 hx T hT hs
theorem Under.grow {f : List (List Int)} {S V W : Nat} (h : Under f S V) (hg : GrF f V W) : Under f S W := by
  intro T hT hs x hx
  rcases (hg x).1 hx with h1 | ⟨a, b, ha, hb, rfl⟩
  · exact h T hT hs x h1
  · exact hT a b (h T hT hs a ha) (h T hT hs b hb)
theorem Under.add {f : List (List Int)} {S V a b v : Nat} (h : Under f S V) (ha : inb V a) (hb : inb V b) (hv : ap f a b = v) : Under f S (V ||| 2 ^ v) := by
  intro T hT hs x hx
  rcases (inb_or V v x).1 hx with h1 | rfl
  · exact h T hT hs x h1
  · rw [← hv]; exact hT a b (h T hT hs a ha) (h T hT hs b hb)
def SfRes (f : List (List Int)) (xs : List Int) (zs : List Int) (code : Int) : Prop :=
  (∃ V, (Rck f ∧ Els f.length xs ∧ xs ≠ []) ∧ LeastS f f.length (sN xs xs.length) V ∧ zs = memL f.length V ∧ code = 0) ∨ (¬ Rck f ∧ zs = [] ∧ code = 1) ∨ (Rck f ∧ ¬ Els f.length xs ∧ zs = [] ∧ code = 2) ∨ (Rck f ∧ Els f.length xs ∧ xs = [] ∧ zs = [] ∧ code = 5)
theorem SfRes.ex (f : List (List Int)) (xs : List Int) : ∃ zs code, SfRes f xs zs code ∧ zs.length ≤ 1048576 := by
  by_cases h : Rck f
  · by_cases h2 : Els f.length xs
    · by_cases h3 : xs = []
      · exact ⟨_, _, .inr (.inr (.inr ⟨h, h2, h3, rfl, rfl⟩)), by simp⟩
      · obtain ⟨V, hV⟩ := LeastS.ex f f.length (sN xs xs.length) (fun x y hx hy => h.tbl.ap_lt rfl hx hy) (sN_lt h2 (Nat.le_refl _))
        refine ⟨_, _, .inl ⟨V, ⟨h, h2, h3⟩, hV, rfl, rfl⟩, ?_⟩
        have h4 := mems_length f.length V
        have h5 := h.tbl.2.1
        rw [memL_length]
        omega
    · exact ⟨_, _, .inr (.inr (.inl ⟨h, h2, rfl, rfl⟩)), by simp⟩
  · exact ⟨_, _, .inr (.inl ⟨h, rfl, rfl⟩), by simp⟩
end Go.Proofs.Ytelildgngkajnaa
namespace Go.Proofs.Ytelildgngkajnaa
open Go Go.RowKit
set_option maxHeartbeats 2000000

set_option maxRecDepth 100000 in
theorem isRackI (A : Option Addr) (n c : Nat) (f : List (List Int)) (r : Bool) (w : World) (hn : f.length = n) (hb : n ≤ 1048576) (hbs : ∀ i, i < f.length → (f.getD i []).length ≤ 1048576) (hr : Rd2 w A f) (hres : RkRes f r) :
    Calls Try.prog 87 #[.agg #[.slice A n c]] w fun e w' => e = .returned (.bool r) ∧ Below w.heap.size w w' := by
  have HN := hide hn
  have HBS := hide hbs
  have HRD := hide hr
  have HR := hide hres
  have hnil : ∀ (u : World) (a : Option Addr) (n c : Nat), (binOp .eql 48 (.slice a n c) (.slice none 0 0)).run Try.prog u = .ok (.bool a.isNone) u := fun u a n c => Lib.run_eql_slice_nil u 48 _ a n c 0 0 Try.underlying48
  have HB0 := hide ((Below.refl _ w).alloc (Nat.le_refl _) (Obj.cells #[Value.slice A n c] 53))
  have HK0 := hide (Blk.new w 53 [.slice A n c])
  by_cases ht : Tbl f
  · have HTB := hide ht
    have hTm : ∃ T, FirstK f n T := FirstK.ex f n
    by_cases hp : AllPrm f
    · have HP := hide hp
      obtain ⟨T, hT⟩ := hTm
      have HT := hide hT
      have hiff : r = true ↔ T = n * n * n := by
        have hrr : r = true ↔ Rck f := HR.out
        rw [hrr, hT.iff, ← hn]
        exact ⟨fun h => h.2, fun h => ⟨⟨ht, hp⟩, h⟩⟩
      have HI := hide hiff
      clear hn hbs hr hres ht hp hT hiff
      go_enter Try.func87, Try.ntmps87
      go_wp2_with fail
      refine (isTable_any _ _ _ f true _ HN.out (by omega) (fun i hi => by have := HBS.out i hi; omega) (HRD.out.later HB0.out) (by simp [HTB.out])).mono ?_
      rintro e w1 ⟨rfl, hq1⟩
      have HB1 := hide (HB0.out.trans (hq1.below _))
      have HK1 := hide (HK0.out.later (hq1.below _))
      clear hq1
      have k0 := HK1.out.cell 0 _ rfl
      go_wp2_with fail
      clear k0
      refine (rowsI_any _ _ _ f true _ HN.out hb HBS.out (HRD.out.later HB1.out) ⟨fun _ => HP.out, fun _ => rfl⟩).mono ?_
      rintro e w2 ⟨rfl, hb2⟩
      have HB2 := hide (HB1.out.trans (hb2.mono HB1.out.size))
      have HK2 := hide (HK1.out.later hb2)
      clear hb2
      have k0 := HK2.out.cell 0 _ rfl
      go_wp2_with fail
      clear k0
      refine (kfault_any _ _ _ f T _ HN.out HTB.out (HRD.out.later HB2.out) HT.out).mono ?_
      rintro e w3 (⟨hTe, rfl, hb3⟩ | ⟨hTl, g, rfl, hb3, hg, hob⟩)
      · have hrt : r = true := HI.out.2 hTe
        subst hrt
        have HB3 := hide (HB2.out.trans (hb3.mono HB2.out.size))
        clear hb3 hTe
        go_wp2_with fail
        go_ret
        exact ⟨rfl, HB3.out⟩
      · have hrf : r = false := by
          cases r
          · rfl
          · have := HI.out.1 rfl; omega
        subst hrf
        have HB3 := hide (HB2.out.trans (hb3.mono HB2.out.size))
        clear hb3 hTl hob
        go_wp2_with fail
        go_ret
        exact ⟨rfl, HB3.out⟩
    · have hrf : r = false := by
        cases r
        · rfl
        · exact absurd (HR.out.1 rfl).prm hp
      subst hrf
      have HP := hide hp
      clear hn hbs hr hres ht hp
      go_enter Try.func87, Try.ntmps87
      go_wp2_with fail
      refine (isTable_any _ _ _ f true _ HN.out (by omega) (fun i hi => by have := HBS.out i hi; omega) (HRD.out.later HB0.out) (by simp [HTB.out])).mono ?_
      rintro e w1 ⟨rfl, hq1⟩
      have HB1 := hide (HB0.out.trans (hq1.below _))
      have HK1 := hide (HK0.out.later (hq1.below _))
      clear hq1
      have k0 := HK1.out.cell 0 _ rfl
      go_wp2_with fail
      clear k0
      refine (rowsI_any _ _ _ f false _ HN.out hb HBS.out (HRD.out.later HB1.out) ⟨fun h => (by cases h), fun h => absurd h HP.out⟩).mono ?_
      rintro e w2 ⟨rfl, hb2⟩
      have HB2 := hide (HB1.out.trans (hb2.mono HB1.out.size))
      clear hb2
      go_wp2_with fail
      go_ret
      exact ⟨rfl, HB2.out⟩
  · have hrf : r = false := by
      cases r
      · rfl
      · exact absurd (HR.out.1 rfl).tbl ht
    subst hrf
    have HTB := hide ht
    clear hn hbs hr hres ht
    go_enter Try.func87, Try.ntmps87
    go_wp2_with fail
    refine (isTable_any _ _ _ f false _ HN.out (by omega) (fun i hi => by have := HBS.out i hi; omega) (HRD.out.later HB0.out) (by simp [HTB.out])).mono ?_
    rintro e w1 ⟨rfl, hq1⟩
    have HB1 := hide (HB0.out.trans (hq1.below _))
    clear hq1
    go_wp2_with fail
    go_ret
    exact ⟨rfl, HB1.out⟩
end Go.Proofs.Ytelildgngkajnaa
namespace Go.Proofs.Ytelildgngkajnaa
open Go Go.RowKit
set_option maxHeartbeats 2000000

set_option maxRecDepth 100000 in
theorem l04Closed_any (A : Option Addr) (n c : Nat) (f : List (List Int)) (S : Nat) (r : Bool) (w : World) (hn : f.length = n) (ht : Tbl f) (hr : Rd2 w A f) (hS : S < 2 ^ n) (hres : r = true ↔ ClosedF f S) :
    Calls Try.prog 85 #[.slice A n c, .int .i64 S] w fun e w' => e = .returned (.bool r) ∧ Below w.heap.size w w' := by
  have h1 : 1 ≤ n := by rw [← hn]; exact ht.1
  have h12 : n ≤ 12 := by rw [← hn]; exact ht.2.1
  have hS12 : S < 4096 := Nat.lt_of_lt_of_le hS (pow_le n h12)
  obtain ⟨bt, ot, hA, hbt, hct⟩ := ht.cells hr hn
  subst hA
  have HT := hide hct
  have HN := hide hn
  have HTB := hide ht
  have HRES := hide hres
  have HS := hide hS
  clear hn ht hr hct hres hS
  go_enter Try.func85, Try.ntmps85
  go_wp2_with fail
  go_loopw [5] (fun i wr => ∃ x : Nat, x ≤ n ∧ i = .int .i64 x ∧ Below w.heap.size w wr ∧ ∀ x', x' < x → ∀ y', y' < n → inb S x' → inb S y' → inb S (ap f x' y')) (fun i _ => n - (intOf i).toNat)
  case atStart => exact ⟨0, Nat.zero_le _, rfl, Below.refl _ _, fun i hi => absurd hi (Nat.not_lt_zero _)⟩
  case round =>
    obtain ⟨x, hxn', rfl, hbe, hall⟩ := hrel
    have HX := hide hbe
    have HALLX := hide hall
    clear hbe hall
    by_cases hltx : x < n
    · have hxz : (x : Int) < n := by omega
      go_wp2_with fail
      go_loopw [6] (fun i wr => ∃ y : Nat, y ≤ n ∧ i = .int .i64 y ∧ Below w.heap.size w wr ∧ ∀ y', y' < y → inb S x → inb S y' → inb S (ap f x y')) (fun i _ => n - (intOf i).toNat)
      case atStart => exact ⟨0, Nat.zero_le _, rfl, HX.out, fun i hi => absurd hi (Nat.not_lt_zero _)⟩
      case round =>
        obtain ⟨y, hyn', rfl, hbe, hall⟩ := hrel
        have HY := hide hbe
        have HALLY := hide hall
        clear hbe hall
        by_cases hlty : y < n
        · have hyz : (y : Int) < n := by omega
          by_cases ix : inb S x
          · have b1 := bt_in (by omega) ix
            by_cases iy : inb S y
            · have b2 := bt_in (by omega) iy
              have hv := HTB.out.ap_lt HN.out hltx hlty
              obtain ⟨bx, ox, cx, rx, lx, gx⟩ := HT.out x hltx
              have t1 := gx y hlty
              obtain ⟨v, hve⟩ : ∃ v, ap f x y = v := ⟨_, rfl⟩
              rw [hve] at t1 hv
              replace rx := (HY.out.cell (p := ⟨bt, ot + x, none⟩) hbt).trans rx
              replace t1 := (HY.out.cell (p := ⟨bx, ox + y, none⟩) lx).trans t1
              have HU := hide hve
              have HIX := hide ix
              have HIY := hide iy
              clear gx hve ix iy
              by_cases iv : inb S v
              · have b3 := bt_in (by omega) iv
                have HIV := hide iv
                clear iv
                go_wp2_with fail
                go_roundw
                case rel => exact ⟨y + 1, by omega, by go_num, HY.out, fun i hi => by
                  by_cases e : i = y
                  · rw [e]; exact fun _ _ => by rw [HU.out]; exact HIV.out
                  · exact HALLY.out i (by omega)⟩
                case measure => simp [intOf]; omega
              · have b3 := bt_out (by omega) iv
                have hrf : r = false := by
                  cases r
                  · rfl
                  · exact absurd (by have h := HRES.out.1 rfl x y HIX.out HIY.out; rw [HU.out] at h; exact h) iv
                subst hrf
                clear iv
                go_wp2_with fail
                go_ret
                exact ⟨rfl, HY.out⟩
            · have b2 := bt_out (by omega) iy
              have HIY := hide iy
              clear iy ix
              go_wp2_with fail
              go_roundw
              case rel => exact ⟨y + 1, by omega, by go_num, HY.out, fun i hi => by
                by_cases e : i = y
                · rw [e]; exact fun _ h => absurd h HIY.out
                · exact HALLY.out i (by omega)⟩
              case measure => simp [intOf]; omega
          · have b1 := bt_out (by omega) ix
            have HIX := hide ix
            clear ix
            go_wp2_with fail
            go_roundw
            case rel => exact ⟨y + 1, by omega, by go_num, HY.out, fun i hi => fun h => absurd h HIX.out⟩
            case measure => simp [intOf]; omega
        · have hye : y = n := by omega
          subst hye
          go_wp2_with fail
          go_roundw
          case rel => exact ⟨x + 1, by omega, by go_num, HY.out, fun i hi => by
            by_cases e : i = x
            · rw [e]; exact HALLY.out
            · exact HALLX.out i (by omega)⟩
          case measure => simp [intOf]; omega
    · have hxe : x = n := by omega
      subst hxe
      have hrt : r = true := HRES.out.2 (fun a b ha hb => HALLX.out a (inb_lt HS.out ha) b (inb_lt HS.out hb) ha hb)
      subst hrt
      go_wp2_with fail
      go_ret
      exact ⟨rfl, HX.out⟩
end Go.Proofs.Ytelildgngkajnaa
