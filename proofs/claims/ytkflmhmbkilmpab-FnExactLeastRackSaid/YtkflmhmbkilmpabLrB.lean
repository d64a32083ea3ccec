import Derived.Test.YtkflmhmbkilmpabPrm
import Derived.Test.YtkflmhmbkilmpabProg
import Derived.Test.YtkflmhmbkilmpabPairF
import Derived.Test.YtkflmhmbkilmpabBlk
import Derived.OwnWalk
import Derived.Deep.AppendLies
import Derived.Test.YtkflmhmbkilmpabPMapF
import Derived.Test.YtkflmhmbkilmpabZArg
import Derived.Test.YtkflmhmbkilmpabEqF
import Derived.Test.YtkflmhmbkilmpabHeld
import Derived.Shelf.Abstract
import Derived.Shelf.Lay
import Derived.Test.YtkflmhmbkilmpabRkA
import Derived.Test.YtkflmhmbkilmpabTblI
import Derived.Test.YtkflmhmbkilmpabKLe
import Derived.WalkSpells
import Derived.Test.YtkflmhmbkilmpabLrF
import Derived.Test.YtkflmhmbkilmpabLeastI
import Derived.Test.YtkflmhmbkilmpabLst1
import Derived.Test.YtkflmhmbkilmpabOwn
import Derived.Test.YtkflmhmbkilmpabRkF
import Derived.Test.YtkflmhmbkilmpabLst
import Derived.Test.YtkflmhmbkilmpabRenF
import Derived.Test.YtkflmhmbkilmpabPig
import Derived.StillTailTactics
import Derived.Test.YtkflmhmbkilmpabCmpF
import Derived.Test.YtkflmhmbkilmpabEqI
import Derived.Test.YtkflmhmbkilmpabLst2
import Derived.Test.YtkflmhmbkilmpabMem
import Derived.Test.YtkflmhmbkilmpabPermsF
import Derived.Test.YtkflmhmbkilmpabLeastF
import Derived.Deep.RegionLaw
import Derived.Test.YtkflmhmbkilmpabObj
namespace Go.Proofs.Ytkflmhmbkilmpab
open Go Go.RowKit
set_option maxHeartbeats 1000000

theorem rowsI_any (A : Option Addr) (n c : Nat) (rows : List (List Int)) (r : Bool) (w : World) (hn : rows.length = n) (hb : n ≤ 1048576) (hbs : ∀ i, i < rows.length → (rows.getD i []).length ≤ 1048576) (hr : Rd2 w A rows) (hrr : r = true ↔ ∀ i, i < rows.length → Prm (rows.getD i [])) :
    Calls Try.prog 71 #[.slice A n c] w fun e w' => e = .returned (.bool r) ∧ Below w.heap.size w w' := by
  have HN := hide hn
  have HR := hide hrr
  clear hn hrr
  go_enter Try.func71, Try.ntmps71
  go_wp2_with fail
  skip
  go_loopw [7] (fun i wr => ∃ k : Nat, k ≤ n ∧ i = .int .i64 k ∧ Below w.heap.size w wr ∧ ∀ i, i < k → Prm (rows.getD i [])) (fun i _ => n - (intOf i).toNat)
  case atStart => exact ⟨0, Nat.zero_le _, rfl, Below.refl _ _, fun i hi => absurd hi (Nat.not_lt_zero _)⟩
  case round =>
    obtain ⟨k, hk, rfl, hbe, hall⟩ := hrel
    have HB := hide hbe
    have HALL := hide hall
    clear hbe hall
    by_cases hlt : k < n
    · obtain ⟨b, o, rfl, _, hc⟩ := (hr.later HB.out) (by have := HN.out; omega)
      obtain ⟨Ak, ck, hcell, hrd⟩ := hc k (by have := HN.out; omega)
      have hbk := hbs k (by have := HN.out; omega)
      obtain ⟨x, hx⟩ : ∃ x, x = rows.getD k [] := ⟨_, rfl⟩
      obtain ⟨m, hm⟩ : ∃ m, x.length = m := ⟨_, rfl⟩
      rw [← hx] at hcell hrd hbk
      rw [hm] at hcell hbk
      have HX := hide hx
      have HM := hide hm
      clear hx hm hc hbs
      have hltz : (k : Int) < n := by omega
      by_cases hp : Prm x
      · have HP := hide hp
        clear hp
        go_wp2_with fail
        refine (isPerm_any _ _ _ x true _ HM.out (by omega) hrd (by simp [HP.out])).mono ?_
        rintro e w1 ⟨rfl, hq1⟩
        have HQ1 := hide hq1
        clear hq1
        go_wp2_with fail
        go_roundw
        case rel =>
          refine ⟨k + 1, by omega, by go_num, HB.out.trans (HQ1.out.mono HB.out.size), fun i hi => ?_⟩
          by_cases e : i = k
          · subst e; rw [← HX.out]; exact HP.out
          · exact HALL.out i (by omega)
        case measure => simp [intOf]; omega
      · have HP := hide hp
        clear hp
        go_wp2_with fail
        refine (isPerm_any _ _ _ x false _ HM.out (by omega) hrd (by simp [HP.out])).mono ?_
        rintro e w1 ⟨rfl, hq1⟩
        have HQ1 := hide hq1
        clear hq1
        go_wp2_with fail
        go_ret
        have : r = false := by
          cases r
          · rfl
          · have h := HR.out.1 rfl k (by have := HN.out; omega)
            rw [← HX.out] at h
            exact absurd h HP.out
        exact ⟨by subst this; rfl, HB.out.trans (HQ1.out.mono HB.out.size)⟩
    · have hkn : k = n := by omega
      subst hkn
      go_wp2_with fail
      go_ret
      have : r = true := HR.out.2 fun i hi => HALL.out i (by have := HN.out; omega)
      exact ⟨by subst this; rfl, HB.out⟩
end Go.Proofs.Ytkflmhmbkilmpab
namespace Go.Proofs.Ytkflmhmbkilmpab
open Go Go.RowKit
set_option maxHeartbeats 1000000

theorem paInfo : (Try.prog.info? 115).map (fun i => (i.zero, i.size, i.bytes)) = some (some (.agg #[.int .i64 0, .int .i64 0]), 2, 16) := by kernel_rfl

/-- The cells of the first k pairs. -/
def pcells (n k : Nat) : List Value := (List.range k).flatMap fun i => [.int .i64 ((i / n : Nat) : Int), .int .i64 ((i % n : Nat) : Int)]
theorem pcells_succ (n k : Nat) : pcells n (k + 1) = pcells n k ++ [.int .i64 ((k / n : Nat) : Int), .int .i64 ((k % n : Nat) : Int)] := by
  unfold pcells
  rw [List.range_succ, List.flatMap_append]
  simp
theorem pcells_length (n k : Nat) : (pcells n k).length = k * 2 := by
  induction k with
  | zero => rfl
  | succ k ih => rw [pcells_succ, List.length_append, ih]; simp; omega
theorem pcells_at (n k i : Nat) (h : i < k) : (pcells n k)[i * 2]? = some (.int .i64 ((i / n : Nat) : Int)) ∧ (pcells n k)[i * 2 + 1]? = some (.int .i64 ((i % n : Nat) : Int)) := by
  induction k with
  | zero => omega
  | succ k ih =>
    have hl := pcells_length n k
    rw [pcells_succ]
    by_cases e : i < k
    · rw [List.getElem?_append_left (by omega), List.getElem?_append_left (by omega)]
      exact ih e
    · have e2 : i = k := by omega
      subst e2
      rw [List.getElem?_append_right (by omega), List.getElem?_append_right (by omega), hl]
      simp
/-- Block g holds all pairs of n elements. -/
def PairsAt (w : World) (g n : Nat) : Prop := g < w.heap.size ∧ ∀ k, k < n * n → w.cell? ⟨g, k * 2, none⟩ = some (.int .i64 ((k / n : Nat) : Int)) ∧ w.cell? ⟨g, k * 2 + 1, none⟩ = some (.int .i64 ((k % n : Nat) : Int))
theorem PairsAt.later {w w' : World} {g n : Nat} (h : PairsAt w g n) (hb : Below w.heap.size w w') : PairsAt w' g n :=
  ⟨Nat.lt_of_lt_of_le h.1 hb.size, fun k hk => ⟨(hb.cell (p := ⟨g, k * 2, none⟩) h.1).trans (h.2 k hk).1, (hb.cell (p := ⟨g, k * 2 + 1, none⟩) h.1).trans (h.2 k hk).2⟩⟩
theorem PairsAt.touch {w w' : World} {g n lo hi : Nat} (h : PairsAt w g n) (ht : Touch lo hi w w') (hs : g < lo ∨ hi ≤ g) : PairsAt w' g n :=
  ⟨Nat.lt_of_lt_of_le h.1 ht.size, fun k hk => ⟨(World.cell?_of_block (a := ⟨g, k * 2, none⟩) (ht.block g h.1 hs)).trans (h.2 k hk).1, (World.cell?_of_block (a := ⟨g, k * 2 + 1, none⟩) (ht.block g h.1 hs)).trans (h.2 k hk).2⟩⟩
theorem pairs_of_owns {w : World} {B g n N : Nat} {t : TypeId} (hN : n * n = N) (h : w.ownsRow B t 2 (.slice (some ⟨g, 0, none⟩) N N) N (pcells n N)) : PairsAt w g n := by
  obtain ⟨h1, h2⟩ := h
  rcases h2 with ⟨hv, _⟩ | ⟨g', cap, cur, hv, hg, hh, a1, a2, a3, a4⟩
  · cases hv
  · cases hv
    refine ⟨(Array.getElem?_eq_some_iff.1 hh).1, fun k hk => ?_⟩
    have hp := pcells_at n N k (by omega)
    rw [← a4, List.getElem?_take, List.getElem?_take, if_pos (by omega), if_pos (by omega)] at hp
    rw [cell_of_row w g (k * 2) cur t (0, 0) hh, cell_of_row w g (k * 2 + 1) cur t (0, 0) hh]
    simpa using hp

set_option maxRecDepth 100000 in
theorem pairsOf_any (n N : Nat) (w : World) (h1 : 1 ≤ n) (h12 : n ≤ 12) (hN : n * n = N) :
    Calls Try.prog 115 #[.int .i64 n] w fun e w' => ∃ g, e = .returned (.slice (some ⟨g, 0, none⟩) N N) ∧ Below w.heap.size w w' ∧ w.heap.size ≤ g ∧ PairsAt w' g n := by
  obtain ⟨i0, hi, hz0, hz1, hz2⟩ := info_parts paInfo
  have hsq : (n : Int) * (n : Int) = (N : Int) := by rw [← hN]; simp
  have hN144 : N ≤ 144 := by rw [← hN]; exact sq_le n h12
  have HN := hide hN
  have hby : i0.bytes = 16 := hz2
  clear hN
  go_enter Try.func115, Try.ntmps115
  go_wp2_with (refine wpList_make_own _ rfl _ _ 112 rfl w.heap.size 115 i0 (.agg #[.int .i64 0, .int .i64 0]) 2 Try.underlying112 hi hz0 hz1 .i64 .i64 (N : Int) N rfl rfl rfl (by rw [hby]; omega) (by unfold maxLen; omega) (Nat.le_refl _) ?_; intro w1 hown1 hgrow1)
  have HO1 := hide hown1
  have HB1 : Hid (Below w.heap.size w w1) := hide ((Below.refl _ w).grown hgrow1 (Nat.le_refl _) (fun g hg => by cases hg))
  clear hown1 hgrow1
  go_wp2_with fail
  have hwl : w.heap.size < w1.heap.size := by have h := HO1.out.2; rcases h with ⟨h, _⟩ | ⟨g, cap, cur, hv, _, hh, _⟩; · cases h
                                              · cases hv; exact (Array.getElem?_eq_some_iff.1 hh).1
  go_loopw [3, 11] (fun v i wr => ∃ x q : Nat, x ≤ n ∧ q = x * n ∧ i = .int .i64 x ∧ v = .slice (some ⟨w.heap.size, 0, none⟩) q N ∧ Below w.heap.size w wr ∧ wr.ownsRow w.heap.size 115 2 (.slice (some ⟨w.heap.size, 0, none⟩) q N) q (pcells n q)) (fun _ i _ => n - (intOf i).toNat)
  case atStart => exact ⟨0, 0, Nat.zero_le _, by simp, rfl, rfl, HB1.out, HO1.out⟩
  case round =>
    obtain ⟨x, q, hx, hq, rfl, rfl, hbe, hown⟩ := hrel
    have HQ := hide hq
    have HB := hide hbe
    have HO := hide hown
    clear hq hbe hown
    by_cases hlt : x < n
    · have hxz : (x : Int) < n := by omega
      go_wp2_with fail
      obtain ⟨wo, rfl⟩ : ∃ wo : World, wo = wr := ⟨_, rfl⟩
      go_loopw [3, 15] (fun v i wi => ∃ y p : Nat, y ≤ n ∧ p = x * n + y ∧ i = .int .i64 y ∧ v = .slice (some ⟨w.heap.size, 0, none⟩) p N ∧ Below w.heap.size w wi ∧ wi.ownsRow w.heap.size 115 2 (.slice (some ⟨w.heap.size, 0, none⟩) p N) p (pcells n p)) (fun _ i _ => n - (intOf i).toNat)
      case atStart => exact ⟨0, q, Nat.zero_le _, by rw [HQ.out]; rfl, rfl, rfl, HB.out, HO.out⟩
      case round =>
        obtain ⟨y, p, hy, hp, rfl, rfl, hbi, hoi⟩ := hrel
        have HP := hide hp
        have HBI := hide hbi
        have HOI := hide hoi
        clear hp hbi hoi
        by_cases hlty : y < n
        · have hyz : (y : Int) < n := by omega
          have hpN : p + 1 ≤ N := by have h := pair_lt n x y hlt hlty; rw [HN.out, ← HP.out] at h; omega
          go_wp2_with (at_builtin; refine wpList_append_fits _ rfl _ _ 112 rfl w.heap.size 115 i0 2 Try.underlying112 hi hz1 w.heap.size p N (pcells n p) rfl (HOI.out.alloc _) ⟨wr.heap.size, 0, none⟩ 1 1 [.int .i64 x, .int .i64 y] rfl rfl (World.news_of_block (cs := #[.int .i64 x, .int .i64 y]) (t := 115) (fr := (0, 0)) (heap_alloc_new wr _)) (by simp [Value.oneCell']) hpN ?_)
          intro w3 hown3 hgrow3
          have hb3 : Below w.heap.size w w3 := (HBI.out.alloc HBI.out.size _).grown hgrow3 (by have := HBI.out.size; simp; omega) (fun g hg => by cases hg; exact Nat.le_refl _)
          have HB3 := hide hb3
          have HO3 := hide hown3
          clear hown3 hgrow3 hb3
          go_wp2_with fail
          go_roundw
          case rel =>
            refine ⟨y + 1, p + 1, by omega, by rw [HP.out]; omega, by go_num, rfl, HB3.out, ?_⟩
            have h := HO3.out
            rw [pcells_succ, HP.out, pair_div n x y hlty, pair_mod n x y hlty, ← HP.out]
            exact h
          case measure => simp [intOf]; omega
        · have hyn : y = n := by omega
          subst hyn
          go_wp2_with fail
          go_roundw
          case rel => exact ⟨x + 1, p, by omega, by rw [HP.out, Nat.add_mul]; omega, by go_num, rfl, HBI.out, HOI.out⟩
          case measure => simp [intOf]; omega
    · have hxn : x = n := by omega
      subst hxn
      have hqn : q = N := by rw [HQ.out, HN.out]
      subst hqn
      go_wp2_with fail
      go_ret
      exact ⟨w.heap.size, rfl, HB.out, Nat.le_refl _, pairs_of_owns HN.out HO.out⟩
end Go.Proofs.Ytkflmhmbkilmpab
namespace Go.Proofs.Ytkflmhmbkilmpab
open Go Go.RowKit

/-- The cells that are read at two elements of both tables of a pair map. -/
theorem ZArg.reads {K : Nat} {w : World} {A : Option Addr} {n : Nat} {f : List (List Int)} {B : Option Addr} {m : Nat} {s : List (List Int)} (hz : ZArg K w A n f B m s) (hp : PMap f s) {x y : Nat} (hx : x < n) (hy : y < n) :
    ∃ b o b2 o2 bx ox cx by' oy cy, A = some ⟨b, o, none⟩ ∧ B = some ⟨b2, o2, none⟩ ∧ w.cell? ⟨b, o + x, none⟩ = some (.slice (some ⟨bx, ox, none⟩) n cx) ∧ w.cell? ⟨b2, o2 + x, none⟩ = some (.slice (some ⟨by', oy, none⟩) n cy) ∧
      w.cell? ⟨bx, ox + y, none⟩ = some (.int .i64 (ap f x y : Nat)) ∧ w.cell? ⟨by', oy + y, none⟩ = some (.int .i64 (ap s x y : Nat)) ∧ b < w.heap.size ∧ b2 < w.heap.size ∧ bx < w.heap.size ∧ by' < w.heap.size := by
  obtain ⟨b, o, rfl, hb, hc⟩ := hp.1.cells hz.fst hz.sz.fl
  have hm : s.length = n := by rw [← hp.2.2]; exact hz.sz.fl
  obtain ⟨b2, o2, rfl, hb2, hc2⟩ := hp.2.1.cells hz.snd hm
  obtain ⟨bx, ox, cx, h1, h2, h3⟩ := hc x hx
  obtain ⟨by', oy, cy, h4, h5, h6⟩ := hc2 x hx
  exact ⟨b, o, b2, o2, bx, ox, cx, by', oy, cy, rfl, rfl, h1, h4, h3 y hy, h6 y hy, hb, hb2, h2, h5⟩
theorem ZArg.same {K : Nat} {w : World} {A : Option Addr} {n : Nat} {f : List (List Int)} {B : Option Addr} {m : Nat} {s : List (List Int)} (hz : ZArg K w A n f B m s) (hp : PMap f s) : m = n := by
  rw [← hz.sz.sl, ← hp.2.2]; exact hz.sz.fl
theorem ZArg.small {K : Nat} {w : World} {A : Option Addr} {n : Nat} {f : List (List Int)} {B : Option Addr} {m : Nat} {s : List (List Int)} (hz : ZArg K w A n f B m s) (hp : PMap f s) : 1 ≤ n ∧ n ≤ 12 := by
  have h1 := hp.1.1
  have h2 := hp.1.2.1
  have h3 := hz.sz.fl
  omega
theorem PMap.lt1 {f s : List (List Int)} (hp : PMap f s) {n x y : Nat} (hn : f.length = n) (hx : x < n) (hy : y < n) : ap f x y < n := hp.1.ap_lt hn hx hy
theorem PMap.lt2 {f s : List (List Int)} (hp : PMap f s) {n x y : Nat} (hn : f.length = n) (hx : x < n) (hy : y < n) : ap s x y < n := hp.2.1.ap_lt (by rw [← hp.2.2]; exact hn) hx hy
end Go.Proofs.Ytkflmhmbkilmpab
namespace Go.Proofs.Ytkflmhmbkilmpab
open Go Go.RowKit

/-- What is asked of the function value: for each three elements, in each later world, it says whether they are as asked, and leaves what there was. -/
def BoolFn3 (P : Program) (F : FuncId) (lb : Array Value) (n : Nat) (q : Nat → Nat → Nat → Bool) (w : World) : Prop :=
  ∀ (W : World) (x y z : Nat), x < n → y < n → z < n → Below w.heap.size w W → Calls P F (#[.int .i64 x, .int .i64 y, .int .i64 z] ++ lb) W fun e w' => e = .returned (.bool (q x y z)) ∧ Below W.heap.size W w'
theorem BoolFn3.later {P : Program} {F : FuncId} {lb : Array Value} {n : Nat} {q : Nat → Nat → Nat → Bool} {w w' : World} (hc : BoolFn3 P F lb n q w) (hb : Below w.heap.size w w') : BoolFn3 P F lb n q w' :=
  fun W x y z hx hy hz hw => hc W x y z hx hy hz (hb.trans (hw.mono hb.size))

/-- What is said of the list of number T. -/
def qAt (q : Nat → Nat → Nat → Bool) (n T : Nat) : Bool := q (trip n T).1 (trip n T).2.1 (trip n T).2.2
theorem qAt_at {q : Nat → Nat → Nat → Bool} {n x y z : Nat} (hy : y < n) (hz : z < n) : qAt q n ((x * n + y) * n + z) = q x y z := by
  unfold qAt
  rw [trip_of hy hz]
/-- T is the first that is as asked, or behind all. -/
def FirstQ (q : Nat → Nat → Nat → Bool) (n T : Nat) : Prop := (∀ i, i < T → qAt q n i = false) ∧ T ≤ n * n * n ∧ (T < n * n * n → qAt q n T = true)
theorem FirstQ.bad {q : Nat → Nat → Nat → Bool} {n T k : Nat} (h : FirstQ q n T) (h1 : ∀ i, i < k → qAt q n i = false) (hk : k < n * n * n) (h2 : qAt q n k = true) : T = k := by
  have a : ¬ k < T := fun h3 => by have := h.1 k h3; rw [h2] at this; exact absurd this (by simp)
  have b : ¬ T < k := fun h3 => by have := h1 T h3; rw [h.2.2 (by omega)] at this; exact absurd this (by simp)
  omega
theorem FirstQ.all {q : Nat → Nat → Nat → Bool} {n T : Nat} (h : FirstQ q n T) (h1 : ∀ i, i < n * n * n → qAt q n i = false) : T = n * n * n := by
  have a := h.2.1
  have b : ¬ T < n * n * n := fun h3 => by have := h1 T h3; rw [h.2.2 h3] at this; exact absurd this (by simp)
  omega
theorem FirstQ.ex (q : Nat → Nat → Nat → Bool) (n : Nat) : ∃ T, FirstQ q n T := by
  have h : ∀ k, k ≤ n * n * n → (∀ i, i < k → qAt q n i = false) ∨ ∃ T, FirstQ q n T := by
    intro k
    induction k with
    | zero => intro _; exact .inl (fun i hi => absurd hi (Nat.not_lt_zero _))
    | succ k ih =>
      intro hk
      rcases ih (by omega) with h | h
      · rcases e : qAt q n k with _ | _
        · refine .inl (fun i hi => ?_)
          by_cases e2 : i = k
          · subst e2; exact e
          · exact h i (by omega)
        · exact .inr ⟨k, h, by omega, fun _ => e⟩
      · exact .inr h
  rcases h _ (Nat.le_refl _) with h | h
  · exact ⟨_, h, Nat.le_refl _, fun h2 => absurd h2 (by omega)⟩
  · exact h
theorem FirstQ.iff {q : Nat → Nat → Nat → Bool} {n T : Nat} (h : FirstQ q n T) : T = n * n * n ↔ ∀ i, i < n * n * n → qAt q n i = false :=
  ⟨fun e i hi => h.1 i (by omega), h.all⟩
end Go.Proofs.Ytkflmhmbkilmpab
namespace Go.Proofs.Ytkflmhmbkilmpab
open Go Go.RowKit
set_option maxHeartbeats 2000000

set_option maxRecDepth 100000 in
theorem firstTriple_any (F : FuncId) (lb : Array Value) (n : Nat) (q : Nat → Nat → Nat → Bool) (T : Nat) (w : World) (eg : ∀ args w, (callFunc F args).run Try.prog w = .ok (.enter F args) w) (h1 : 1 ≤ n) (h12 : n ≤ 12) (hp : BoolFn3 Try.prog F lb n q w) (hT : FirstQ q n T) :
    Calls Try.prog 92 #[.int .i64 n, .func (.func F) #[] lb] w fun e w' => (T = n * n * n ∧ e = .returned (.slice none 0 0) ∧ Below w.heap.size w w') ∨ (T < n * n * n ∧ ∃ g, e = .returned (.slice (some ⟨g, 0, none⟩) 3 3) ∧ Below w.heap.size w w' ∧ w.heap.size ≤ g ∧ OwnB 2 w' g (lst3 (trip n T))) := by
  have HPF := hide hp
  have HT := hide hT
  obtain ⟨N, hN⟩ : ∃ N, n * n = N := ⟨_, rfl⟩
  have hN144 : N ≤ 144 := by rw [← hN]; exact sq_le n h12
  have HNN := hide hN
  clear hT hN hp
  go_enter Try.func92, Try.ntmps92
  go_wp2_with fail
  refine (pairsOf_any n N _ h1 h12 HNN.out).mono ?_
  rintro e w3 ⟨g, rfl, hb3, hg3, hpa⟩
  have HB3 := hide hb3
  have HPA3 := hide hpa
  clear hb3 hpa
  go_wp2_with fail
  go_loopw [11] (fun i wr => ∃ k : Nat, k ≤ N ∧ i = .int .i64 k ∧ Below w.heap.size w wr ∧ PairsAt wr g n ∧ ∀ i, i < k * n → qAt q n i = false) (fun i _ => N - (intOf i).toNat)
  case atStart => exact ⟨0, Nat.zero_le _, rfl, HB3.out, HPA3.out, fun i hi => absurd hi (by omega)⟩
  case round =>
    obtain ⟨k, hk, rfl, hbe, hpa, hall⟩ := hrel
    have HB := hide hbe
    have HPA := hide hpa
    have HALL := hide hall
    clear hbe hpa hall
    by_cases hlt : k < N
    · have hkz : (k : Int) < N := by omega
      obtain ⟨p0, p1⟩ := HPA.out.2 k (by rw [HNN.out]; exact hlt)
      have hxn : k / n < n := div_lt_sq (by rw [HNN.out]; exact hlt)
      have hyn : k % n < n := mod_lt_sq (by rw [HNN.out]; exact hlt)
      obtain ⟨x, hx⟩ : ∃ x, k / n = x := ⟨_, rfl⟩
      obtain ⟨y, hy⟩ : ∃ y, k % n = y := ⟨_, rfl⟩
      rw [hx] at p0 hxn
      rw [hy] at p1 hyn
      have HX := hide hx
      have HY := hide hy
      clear hx hy
      go_wp2_with fail
      refine wp_gen fun w4 hw4 => ?_
      obtain ⟨P, hPe⟩ : ∃ P, wr.heap.size = P := ⟨_, rfl⟩
      have HB4 : Hid (Below w.heap.size w w4) := hide (by rw [hw4]; exact HB.out.alloc HB.out.size _)
      have HP4 : Hid (Blk w4 P 115 [.int .i64 x, .int .i64 y]) := hide (by rw [hw4, ← hPe]; exact Blk.new _ _ _)
      have HA4 : Hid (PairsAt w4 g n) := hide (by rw [hw4]; exact HPA.out.later ((Below.refl _ _).alloc (Nat.le_refl _) _))
      rw [hPe]
      clear hw4 p0 p1 hPe
      go_loopw [16] (fun i wi => ∃ z : Nat, z ≤ n ∧ i = .int .i64 z ∧ Below w.heap.size w wi ∧ Blk wi P 115 [.int .i64 x, .int .i64 y] ∧ PairsAt wi g n ∧ ∀ i, i < k * n + z → qAt q n i = false) (fun i _ => n - (intOf i).toNat)
      case atStart => exact ⟨0, Nat.zero_le _, rfl, HB4.out, HP4.out, HA4.out, HALL.out⟩
      case round =>
        obtain ⟨z, hzn, rfl, hbe, hpp, hpa, hall⟩ := hrel
        have HBc := hide hbe
        have HPc := hide hpp
        have HAc := hide hpa
        have HALLI := hide hall
        clear hbe hpp hpa hall
        by_cases hltz : z < n
        · have hzz : (z : Int) < n := by omega
          have hklt : k * n + z < n * n * n := by
            have h := trip_lt (n := n) hxn hyn hltz
            rw [← HX.out, ← HY.out, pair_eta] at h
            exact h
          have hat : qAt q n (k * n + z) = q x y z := by
            have h := qAt_at (q := q) (n := n) (x := x) hyn hltz
            rw [← HX.out, ← HY.out, pair_eta] at h
            rw [← HX.out, ← HY.out]
            exact h
          have htr : trip n (k * n + z) = (x, y, z) := by
            have h := trip_of (n := n) (x := x) hyn hltz
            rw [← HX.out, ← HY.out, pair_eta, HX.out, HY.out] at h
            exact h
          have HTR := hide htr
          have HKL := hide hklt
          clear htr hklt
          obtain ⟨bq, hbq⟩ : ∃ b, q x y z = b := ⟨_, rfl⟩
          rw [hbq] at hat
          have HAT := hide hat
          have HBQ := hide hbq
          clear hat hbq
          have k0 := HPc.out.cell 0 _ rfl
          have k1 := HPc.out.cell 1 _ rfl
          cases bq with
          | false =>
            go_wp2_with (go_at_fn F; go_must (refine calls_gen fun wc hwc => ?_; (first | have hbx := drew_below hwc | have hbx := eq_below hwc); replace HBc := hide (HBc.out.trans (hbx.mono HBc.out.size)); replace HPc := hide (HPc.out.later hbx); replace HAc := hide (HAc.out.later hbx); clear hwc hbx; refine (HPF.out _ x y z hxn hyn hltz HBc.out).mono ?_; rw [HBQ.out]; rintro e wd ⟨rfl, hbd⟩; replace HBc := hide (HBc.out.trans (hbd.mono HBc.out.size)); replace HPc := hide (HPc.out.later hbd); replace HAc := hide (HAc.out.later hbd); clear hbd; have k0 := HPc.out.cell 0 _ rfl; have k1 := HPc.out.cell 1 _ rfl; clear k0 k1))
            clear k0 k1
            go_wp2_with fail
            go_roundw
            case rel => exact ⟨z + 1, by omega, by go_num, HBc.out, HPc.out, HAc.out, fun i hi => by
              by_cases e : i = k * n + z
              · rw [e]; exact HAT.out
              · exact HALLI.out i (by omega)⟩
            case measure => simp [intOf]; omega
          | true =>
            have HTB2 := hide (HT.out.bad HALLI.out HKL.out HAT.out)
            go_wp2_with (go_at_fn F; go_must (refine calls_gen fun wc hwc => ?_; (first | have hbx := drew_below hwc | have hbx := eq_below hwc); replace HBc := hide (HBc.out.trans (hbx.mono HBc.out.size)); replace HPc := hide (HPc.out.later hbx); replace HAc := hide (HAc.out.later hbx); clear hwc hbx; refine (HPF.out _ x y z hxn hyn hltz HBc.out).mono ?_; rw [HBQ.out]; rintro e wd ⟨rfl, hbd⟩; replace HBc := hide (HBc.out.trans (hbd.mono HBc.out.size)); replace HPc := hide (HPc.out.later hbd); replace HAc := hide (HAc.out.later hbd); clear hbd; have k0 := HPc.out.cell 0 _ rfl; have k1 := HPc.out.cell 1 _ rfl; have k2 := fun o => (HPc.out.alloc o).cell 0 _ rfl; have k3 := fun o => (HPc.out.alloc o).cell 1 _ rfl))
            clear k0 k1
            go_wp2_with fail
            refine bp_gen fun wf hwf => ?_
            have HBF : Below w.heap.size w wf := by rw [hwf]; exact HBc.out.alloc HBc.out.size _
            have HLF : Hid (Blk wf wd.heap.size 2 [.int .i64 x, .int .i64 y, .int .i64 z]) := hide (by rw [hwf]; exact Blk.new _ _ _)
            have hlo : w.heap.size ≤ wd.heap.size := HBc.out.size
            clear hwf
            go_ret
            exact .inr ⟨by rw [HTB2.out]; exact HKL.out, _, rfl, HBF, hlo, _, HLF.out, fun i hi => by
              rw [HTB2.out, HTR.out] at hi ⊢
              simp [lst3] at hi
              rcases i with _ | _ | _ | i
              · rfl
              · rfl
              · rfl
              · omega⟩
        · have hzn' : z = n := by omega
          subst hzn'
          go_wp2_with fail
          go_roundw
          case rel => exact ⟨k + 1, by omega, by go_num, HBc.out, HAc.out, fun i hi => HALLI.out i (by rw [Nat.add_mul, Nat.one_mul] at hi; exact hi)⟩
          case measure => simp [intOf]; omega
    · have hkn : k = N := by omega
      subst hkn
      go_wp2_with fail
      go_ret
      exact .inl ⟨HT.out.all (fun i hi => HALL.out i (by rw [HNN.out] at hi; exact hi)), rfl, HB.out⟩
end Go.Proofs.Ytkflmhmbkilmpab
namespace Go.Proofs.Ytkflmhmbkilmpab
open Go Go.RowKit
set_option maxHeartbeats 2000000
/-- Whether three elements show that a table is no rack's. -/
def rkq (f : List (List Int)) : Nat → Nat → Nat → Bool := fun x y z => !decide (ap f x (ap f y z) = ap f (ap f x y) (ap f x z))
theorem rkq_not (f : List (List Int)) (n i : Nat) : qAt (rkq f) n i = false ↔ Rk3 f n i := by
  unfold qAt rkq Rk3
  simp
theorem rkq_is (f : List (List Int)) (n i : Nat) : qAt (rkq f) n i = true ↔ ¬ Rk3 f n i := by
  rw [← rkq_not]
  simp
theorem FirstK.q {f : List (List Int)} {n T : Nat} (h : FirstK f n T) : FirstQ (rkq f) n T :=
  ⟨fun i hi => (rkq_not f n i).2 (h.1 i hi), h.2.1, fun ht => (rkq_is f n T).2 (h.2.2 ht)⟩

set_option maxRecDepth 100000 in
theorem kfC_any (A : Option Addr) (n c : Nat) (f : List (List Int)) (b : Nat) (w : World) (hn : f.length = n) (ht : Tbl f) (hr : Rd2 w A f) (hk : Blk w b 26 [.slice A n c]) :
    BoolFn3 Try.prog 93 #[.pointer (some ⟨b, 0, none⟩)] n (rkq f) w := by
  intro W x y z hx hy hz hb
  have HR := hide (hr.later hb)
  have HKc := hide (hk.later hb)
  have HBc := hide (Below.refl W.heap.size W)
  have HN := hide hn
  have HTB := hide ht
  show Calls Try.prog 93 #[.int .i64 x, .int .i64 y, .int .i64 z, .pointer (some ⟨b, 0, none⟩)] W _
  clear hn ht hr hk hb
  have hq1 := HTB.out.ap_lt HN.out hy hz
  have hq2 := HTB.out.ap_lt HN.out hx hy
  have hq3 := HTB.out.ap_lt HN.out hx hz
  obtain ⟨bq, hat⟩ : ∃ bq, rkq f x y z = bq := ⟨_, rfl⟩
  rw [hat]
  unfold rkq at hat
  obtain ⟨q1, h_1⟩ : ∃ u, ap f y z = u := ⟨_, rfl⟩
  obtain ⟨q2, h_2⟩ : ∃ u, ap f x y = u := ⟨_, rfl⟩
  obtain ⟨q3, h_3⟩ : ∃ u, ap f x z = u := ⟨_, rfl⟩
  rw [h_1, h_2, h_3] at hat
  rw [h_1] at hq1
  rw [h_2] at hq2
  rw [h_3] at hq3
  obtain ⟨q4, h_4⟩ : ∃ u, ap f x q1 = u := ⟨_, rfl⟩
  obtain ⟨q5, h_5⟩ : ∃ u, ap f q2 q3 = u := ⟨_, rfl⟩
  rw [h_4, h_5] at hat
  have HAT : Hid ((!decide (q4 = q5)) = bq) := hide hat
  have U1 := hide h_1
  have U2 := hide h_2
  have U3 := hide h_3
  have U4 := hide h_4
  have U5 := hide h_5
  clear h_1 h_2 h_3 h_4 h_5 hat
  have k0 := HKc.out.cell 0 _ rfl
  have tok0 : True := trivial
  have tok1 : True := trivial
  have tok2 : True := trivial
  have tok3 : True := trivial
  go_enter Try.func93, Try.ntmps93
  by_cases hcs : q4 = q5
  · have hbq : bq = false := by rw [← HAT.out, hcs]; simp
    subst hcs
    subst hbq
    go_wp2_with fail
    go_region_held3 (fun w' => w'.cell? ⟨b, 0, none⟩ = some (.slice A n c)) (first | exact k0 | go_keep) (first | (go_at_call 74; have _t := tok0; clear _t tok0; go_must (refine calls_gen fun wc hwc => ?_; (first | have hbx := drew_below hwc | have hbx := eq_below hwc); replace HBc := hide (HBc.out.trans (hbx.mono HBc.out.size)); replace HKc := hide (HKc.out.later hbx); clear hwc hbx; refine (act_any _ _ _ f y z q1 _ HN.out HTB.out (HR.out.later HBc.out) hy hz U1.out).mono ?_; rintro e wd ⟨rfl, hbd⟩; replace HBc := hide (HBc.out.trans (hbd.mono HBc.out.size)); replace HKc := hide (HKc.out.later hbd); clear hbd; have k0 := HKc.out.cell 0 _ rfl)) | (go_at_call 74; have _t := tok1; clear _t tok1; go_must (refine calls_gen fun wc hwc => ?_; (first | have hbx := drew_below hwc | have hbx := eq_below hwc); replace HBc := hide (HBc.out.trans (hbx.mono HBc.out.size)); replace HKc := hide (HKc.out.later hbx); clear hwc hbx; refine (act_any _ _ _ f x q1 q4 _ HN.out HTB.out (HR.out.later HBc.out) hx hq1 U4.out).mono ?_; rintro e wd ⟨rfl, hbd⟩; replace HBc := hide (HBc.out.trans (hbd.mono HBc.out.size)); replace HKc := hide (HKc.out.later hbd); clear hbd; have k0 := HKc.out.cell 0 _ rfl)) | (go_at_call 74; have _t := tok2; clear _t tok2; go_must (refine calls_gen fun wc hwc => ?_; (first | have hbx := drew_below hwc | have hbx := eq_below hwc); replace HBc := hide (HBc.out.trans (hbx.mono HBc.out.size)); replace HKc := hide (HKc.out.later hbx); clear hwc hbx; refine (act_any _ _ _ f x y q2 _ HN.out HTB.out (HR.out.later HBc.out) hx hy U2.out).mono ?_; rintro e wd ⟨rfl, hbd⟩; replace HBc := hide (HBc.out.trans (hbd.mono HBc.out.size)); replace HKc := hide (HKc.out.later hbd); clear hbd; have k0 := HKc.out.cell 0 _ rfl)) | (go_at_call 74; have _t := tok3; clear _t tok3; go_must (refine calls_gen fun wc hwc => ?_; (first | have hbx := drew_below hwc | have hbx := eq_below hwc); replace HBc := hide (HBc.out.trans (hbx.mono HBc.out.size)); replace HKc := hide (HKc.out.later hbx); clear hwc hbx; refine (act_any _ _ _ f x z q3 _ HN.out HTB.out (HR.out.later HBc.out) hx hz U3.out).mono ?_; rintro e wd ⟨rfl, hbd⟩; replace HBc := hide (HBc.out.trans (hbd.mono HBc.out.size)); replace HKc := hide (HKc.out.later hbd); clear hbd; have k0 := HKc.out.cell 0 _ rfl)) | (go_at_call 74; go_must (refine calls_gen fun wc hwc => ?_; (first | have hbx := drew_below hwc | have hbx := eq_below hwc); replace HBc := hide (HBc.out.trans (hbx.mono HBc.out.size)); replace HKc := hide (HKc.out.later hbx); clear hwc hbx; refine (act_any _ _ _ f q2 q3 q4 _ HN.out HTB.out (HR.out.later HBc.out) hq2 hq3 U5.out).mono ?_; rintro e wd ⟨rfl, hbd⟩; replace HBc := hide (HBc.out.trans (hbd.mono HBc.out.size)); replace HKc := hide (HKc.out.later hbd); clear hbd; have k0 := HKc.out.cell 0 _ rfl)))
    go_wp2_with fail
    go_ret
    exact ⟨rfl, HBc.out⟩
  · have hbq : bq = true := by rw [← HAT.out]; simp [hcs]
    have hcz : ((q4 : Int) != (q5 : Int)) = true := by rw [bne_iff_ne]; omega
    subst hbq
    go_wp2_with fail
    go_region_held3 (fun w' => w'.cell? ⟨b, 0, none⟩ = some (.slice A n c)) (first | exact k0 | go_keep) (first | (go_at_call 74; have _t := tok0; clear _t tok0; go_must (refine calls_gen fun wc hwc => ?_; (first | have hbx := drew_below hwc | have hbx := eq_below hwc); replace HBc := hide (HBc.out.trans (hbx.mono HBc.out.size)); replace HKc := hide (HKc.out.later hbx); clear hwc hbx; refine (act_any _ _ _ f y z q1 _ HN.out HTB.out (HR.out.later HBc.out) hy hz U1.out).mono ?_; rintro e wd ⟨rfl, hbd⟩; replace HBc := hide (HBc.out.trans (hbd.mono HBc.out.size)); replace HKc := hide (HKc.out.later hbd); clear hbd; have k0 := HKc.out.cell 0 _ rfl)) | (go_at_call 74; have _t := tok1; clear _t tok1; go_must (refine calls_gen fun wc hwc => ?_; (first | have hbx := drew_below hwc | have hbx := eq_below hwc); replace HBc := hide (HBc.out.trans (hbx.mono HBc.out.size)); replace HKc := hide (HKc.out.later hbx); clear hwc hbx; refine (act_any _ _ _ f x q1 q4 _ HN.out HTB.out (HR.out.later HBc.out) hx hq1 U4.out).mono ?_; rintro e wd ⟨rfl, hbd⟩; replace HBc := hide (HBc.out.trans (hbd.mono HBc.out.size)); replace HKc := hide (HKc.out.later hbd); clear hbd; have k0 := HKc.out.cell 0 _ rfl)) | (go_at_call 74; have _t := tok2; clear _t tok2; go_must (refine calls_gen fun wc hwc => ?_; (first | have hbx := drew_below hwc | have hbx := eq_below hwc); replace HBc := hide (HBc.out.trans (hbx.mono HBc.out.size)); replace HKc := hide (HKc.out.later hbx); clear hwc hbx; refine (act_any _ _ _ f x y q2 _ HN.out HTB.out (HR.out.later HBc.out) hx hy U2.out).mono ?_; rintro e wd ⟨rfl, hbd⟩; replace HBc := hide (HBc.out.trans (hbd.mono HBc.out.size)); replace HKc := hide (HKc.out.later hbd); clear hbd; have k0 := HKc.out.cell 0 _ rfl)) | (go_at_call 74; have _t := tok3; clear _t tok3; go_must (refine calls_gen fun wc hwc => ?_; (first | have hbx := drew_below hwc | have hbx := eq_below hwc); replace HBc := hide (HBc.out.trans (hbx.mono HBc.out.size)); replace HKc := hide (HKc.out.later hbx); clear hwc hbx; refine (act_any _ _ _ f x z q3 _ HN.out HTB.out (HR.out.later HBc.out) hx hz U3.out).mono ?_; rintro e wd ⟨rfl, hbd⟩; replace HBc := hide (HBc.out.trans (hbd.mono HBc.out.size)); replace HKc := hide (HKc.out.later hbd); clear hbd; have k0 := HKc.out.cell 0 _ rfl)) | (go_at_call 74; go_must (refine calls_gen fun wc hwc => ?_; (first | have hbx := drew_below hwc | have hbx := eq_below hwc); replace HBc := hide (HBc.out.trans (hbx.mono HBc.out.size)); replace HKc := hide (HKc.out.later hbx); clear hwc hbx; refine (act_any _ _ _ f q2 q3 q5 _ HN.out HTB.out (HR.out.later HBc.out) hq2 hq3 U5.out).mono ?_; rintro e wd ⟨rfl, hbd⟩; replace HBc := hide (HBc.out.trans (hbd.mono HBc.out.size)); replace HKc := hide (HKc.out.later hbd); clear hbd; have k0 := HKc.out.cell 0 _ rfl)))
    go_wp2_with fail
    go_ret
    exact ⟨rfl, HBc.out⟩

set_option maxRecDepth 100000 in
theorem kfaultQ_any (A : Option Addr) (n c : Nat) (f : List (List Int)) (T : Nat) (w : World) (hn : f.length = n) (ht : Tbl f) (hr : Rd2 w A f) (hT : FirstQ (rkq f) n T) :
    Calls Try.prog 72 #[.agg #[.slice A n c]] w fun e w' => (T = n * n * n ∧ e = .returned (.slice none 0 0) ∧ Below w.heap.size w w') ∨ (T < n * n * n ∧ ∃ g, e = .returned (.slice (some ⟨g, 0, none⟩) 3 3) ∧ Below w.heap.size w w' ∧ w.heap.size ≤ g ∧ OwnB 2 w' g (lst3 (trip n T))) := by
  have h1 : 1 ≤ n := by rw [← hn]; exact ht.1
  have h12 : n ≤ 12 := by rw [← hn]; exact ht.2.1
  have HN := hide hn
  have HTB := hide ht
  have HR := hide hr
  have HT := hide hT
  have HB0 := hide ((Below.refl _ w).alloc (Nat.le_refl _) (Obj.cells #[Value.slice A n c] 26))
  have HK0 := hide (Blk.new w 26 [.slice A n c])
  clear hn ht hr hT
  go_enter Try.func72, Try.ntmps72
  go_wp2_with fail
  refine (ksize_any _ _ _ _ (by omega)).mono ?_
  rintro e w2 ⟨rfl, hb2⟩
  have HB2 := hide (HB0.out.trans (hb2.mono HB0.out.size))
  have HK2 := hide (HK0.out.later hb2)
  clear hb2
  go_wp2_with fail
  refine (firstTriple_any 93 _ n (rkq f) T _ (fun _ _ => rfl) h1 h12 (kfC_any A n c f w.heap.size _ HN.out HTB.out (HR.out.later HB2.out) HK2.out) HT.out).mono ?_
  rintro e w3 (⟨hTe, rfl, hb3⟩ | ⟨hTl, g, rfl, hb3, hg, hob⟩)
  · have HB3 := hide (HB2.out.trans (hb3.mono HB2.out.size))
    clear hb3
    go_wp2_with fail
    go_ret
    exact .inl ⟨hTe, rfl, HB3.out⟩
  · have HB3 := hide (HB2.out.trans (hb3.mono HB2.out.size))
    have HO3 := hide hob
    have hlo : w.heap.size ≤ g := by have := HB2.out.size; omega
    clear hb3 hob
    go_wp2_with fail
    go_ret
    exact .inr ⟨hTl, _, rfl, HB3.out, hlo, HO3.out⟩

theorem kfault_any (A : Option Addr) (n c : Nat) (f : List (List Int)) (T : Nat) (w : World) (hn : f.length = n) (ht : Tbl f) (hr : Rd2 w A f) (hT : FirstK f n T) :
    Calls Try.prog 72 #[.agg #[.slice A n c]] w fun e w' => (T = n * n * n ∧ e = .returned (.slice none 0 0) ∧ Below w.heap.size w w') ∨ (T < n * n * n ∧ ∃ g, e = .returned (.slice (some ⟨g, 0, none⟩) 3 3) ∧ Below w.heap.size w w' ∧ w.heap.size ≤ g ∧ OwnB 2 w' g (lst3 (trip n T))) :=
  kfaultQ_any A n c f T w hn ht hr hT.q
end Go.Proofs.Ytkflmhmbkilmpab
namespace Go.Proofs.Ytkflmhmbkilmpab
open Go Go.RowKit
set_option maxHeartbeats 2000000

set_option maxRecDepth 100000 in
theorem isRackI (A : Option Addr) (n c : Nat) (f : List (List Int)) (r : Bool) (w : World) (hn : f.length = n) (hb : n ≤ 1048576) (hbs : ∀ i, i < f.length → (f.getD i []).length ≤ 1048576) (hr : Rd2 w A f) (hres : RkRes f r) :
    Calls Try.prog 43 #[.agg #[.slice A n c]] w fun e w' => e = .returned (.bool r) ∧ Below w.heap.size w w' := by
  have HN := hide hn
  have HBS := hide hbs
  have HRD := hide hr
  have HR := hide hres
  have hnil : ∀ (u : World) (a : Option Addr) (n c : Nat), (binOp .eql 33 (.slice a n c) (.slice none 0 0)).run Try.prog u = .ok (.bool a.isNone) u := fun u a n c => Lib.run_eql_slice_nil u 33 _ a n c 0 0 Try.underlying33
  have HB0 := hide ((Below.refl _ w).alloc (Nat.le_refl _) (Obj.cells #[Value.slice A n c] 26))
  have HK0 := hide (Blk.new w 26 [.slice A n c])
  by_cases ht : Tbl f
  · have HTB := hide ht
    have hTm : ∃ T, FirstK f n T := FirstK.ex f n
    by_cases hp : AllPrm f
    · have HP := hide hp
      obtain ⟨T, hT⟩ := hTm
      have HT := hide hT
      have hiff : r = true ↔ T = n * n * n := by
        have hrr : r = true ↔ Rck f := HR.out
        rw [hrr, hT.iff, ← hn]
        exact ⟨fun h => h.2, fun h => ⟨⟨ht, hp⟩, h⟩⟩
      have HI := hide hiff
      clear hn hbs hr hres ht hp hT hiff
      go_enter Try.func43, Try.ntmps43
      go_wp2_with fail
      refine (isTable_any _ _ _ f true _ HN.out (by omega) (fun i hi => by have := HBS.out i hi; omega) (HRD.out.later HB0.out) (by simp [HTB.out])).mono ?_
      rintro e w1 ⟨rfl, hq1⟩
      have HB1 := hide (HB0.out.trans (hq1.below _))
      have HK1 := hide (HK0.out.later (hq1.below _))
      clear hq1
      have k0 := HK1.out.cell 0 _ rfl
      go_wp2_with fail
      clear k0
      refine (rowsI_any _ _ _ f true _ HN.out hb HBS.out (HRD.out.later HB1.out) ⟨fun _ => HP.out, fun _ => rfl⟩).mono ?_
      rintro e w2 ⟨rfl, hb2⟩
      have HB2 := hide (HB1.out.trans (hb2.mono HB1.out.size))
      have HK2 := hide (HK1.out.later hb2)
      clear hb2
      have k0 := HK2.out.cell 0 _ rfl
      go_wp2_with fail
      clear k0
      refine (kfault_any _ _ _ f T _ HN.out HTB.out (HRD.out.later HB2.out) HT.out).mono ?_
      rintro e w3 (⟨hTe, rfl, hb3⟩ | ⟨hTl, g, rfl, hb3, hg, hob⟩)
      · have hrt : r = true := HI.out.2 hTe
        subst hrt
        have HB3 := hide (HB2.out.trans (hb3.mono HB2.out.size))
        clear hb3 hTe
        go_wp2_with fail
        go_ret
        exact ⟨rfl, HB3.out⟩
      · have hrf : r = false := by
          cases r
          · rfl
          · have := HI.out.1 rfl; omega
        subst hrf
        have HB3 := hide (HB2.out.trans (hb3.mono HB2.out.size))
        clear hb3 hTl hob
        go_wp2_with fail
        go_ret
        exact ⟨rfl, HB3.out⟩
    · have hrf : r = false := by
        cases r
        · rfl
        · exact absurd (HR.out.1 rfl).prm hp
      subst hrf
      have HP := hide hp
      clear hn hbs hr hres ht hp
      go_enter Try.func43, Try.ntmps43
      go_wp2_with fail
      refine (isTable_any _ _ _ f true _ HN.out (by omega) (fun i hi => by have := HBS.out i hi; omega) (HRD.out.later HB0.out) (by simp [HTB.out])).mono ?_
      rintro e w1 ⟨rfl, hq1⟩
      have HB1 := hide (HB0.out.trans (hq1.below _))
      have HK1 := hide (HK0.out.later (hq1.below _))
      clear hq1
      have k0 := HK1.out.cell 0 _ rfl
      go_wp2_with fail
      clear k0
      refine (rowsI_any _ _ _ f false _ HN.out hb HBS.out (HRD.out.later HB1.out) ⟨fun h => (by cases h), fun h => absurd h HP.out⟩).mono ?_
      rintro e w2 ⟨rfl, hb2⟩
      have HB2 := hide (HB1.out.trans (hb2.mono HB1.out.size))
      clear hb2
      go_wp2_with fail
      go_ret
      exact ⟨rfl, HB2.out⟩
  · have hrf : r = false := by
      cases r
      · rfl
      · exact absurd (HR.out.1 rfl).tbl ht
    subst hrf
    have HTB := hide ht
    clear hn hbs hr hres ht
    go_enter Try.func43, Try.ntmps43
    go_wp2_with fail
    refine (isTable_any _ _ _ f false _ HN.out (by omega) (fun i hi => by have := HBS.out i hi; omega) (HRD.out.later HB0.out) (by simp [HTB.out])).mono ?_
    rintro e w1 ⟨rfl, hq1⟩
    have HB1 := hide (HB0.out.trans (hq1.below _))
    clear hq1
    go_wp2_with fail
    go_ret
    exact ⟨rfl, HB1.out⟩
end Go.Proofs.Ytkflmhmbkilmpab
namespace Go.Proofs.Ytkflmhmbkilmpab
open Go Go.RowKit
set_option maxHeartbeats 2000000

set_option maxRecDepth 100000 in
theorem lrI_any (A : Option Addr) (n c : Nat) (f : List (List Int)) (zs : List (List Int)) (code : Int) (k : Nat) (w : World) (hn : f.length = n) (hb : n ≤ 1048576) (hbs : ∀ i, i < f.length → (f.getD i []).length ≤ 1048576) (hr : Rd2 w A f) (hres : LrRes f zs code) (hk : zs.length = k) :
    Calls Try.prog 27 #[.agg #[.slice A n c]] w (fun e w' => ∃ A' c', e = .returned (.tuple #[.agg #[.slice A' k c'], .int .i64 code]) ∧ Below w.heap.size w w' ∧ Obj2 33 2 w.heap.size w'.heap.size w' A' zs) := by
  have HN := hide hn
  have HBS := hide hbs
  have HRD := hide hr
  have HB0 := hide (((Below.refl _ w).alloc (Nat.le_refl _) (Obj.cells #[Value.slice A n c] 26)).alloc (by simp) (Obj.cells #[.slice none 0 0] 26))
  have HK0 := hide ((Blk.new w 26 [.slice A n c]).alloc (Obj.cells #[.slice none 0 0] 26))
  have HR0 : Hid (Blk ((w.alloc (Obj.cells #[Value.slice A n c] 26)).alloc (Obj.cells #[.slice none 0 0] 26)) (w.heap.size + 1) 26 [.slice none 0 0]) := hide (by have h := Blk.new (w.alloc (Obj.cells #[Value.slice A n c] 26)) 26 [.slice none 0 0]; simpa using h)
  by_cases hp : Rck f
  · have HRES : Hid (LeastRes f zs code) := hide (by
      rcases hres with ⟨_, h7, h1, h2⟩ | ⟨_, h7, h1, h2⟩ | ⟨h, _⟩
      · exact .inl ⟨hp.tbl, h7, h1, h2⟩
      · exact .inr (.inl ⟨hp.tbl, h7, h1, h2⟩)
      · exact absurd hp h)
    have HKZ := hide hk
    clear hres hk
    have HRK : Hid (RkRes f true) := hide (by unfold RkRes; simp [hp])
    have HP := hide hp
    clear hn hbs hr hp
    go_enter Try.func27, Try.ntmps27
    go_wp2_with fail
    refine (isRackI _ _ _ f true _ HN.out hb HBS.out (HRD.out.later HB0.out) HRK.out).mono ?_
    rintro e w1 ⟨rfl, hb1⟩
    have HB1 := hide (HB0.out.trans (hb1.mono HB0.out.size))
    have HK1 := hide (HK0.out.later hb1)
    have HR1 := hide (HR0.out.later hb1)
    clear hb1
    have k0 := HK1.out.cell 0 _ rfl
    go_wp2_with fail
    clear k0
    refine (leastI_any _ _ _ f zs code k _ HN.out hb HBS.out (HRD.out.later HB1.out) HRES.out HKZ.out).mono ?_
    rintro e w2 ⟨A2, c2, rfl, hb2, ho2⟩
    have HB2 := hide (HB1.out.trans (hb2.mono HB1.out.size))
    have HR2 := hide (HR1.out.later hb2)
    have HO2 := hide ho2
    have hlow : w.heap.size + 1 < w1.heap.size := HR1.out.lt
    clear hb2 ho2
    have k2 := HR2.out.cell 0 _ rfl
    have k3 := HR2.out.frozen 0
    go_wp2_with fail
    refine bp_gen fun wf hwf => ?_
    obtain ⟨q0, hbf, hof⟩ := kend hwf HR2.out (by omega) HB2.out HO2.out (by omega) hlow (Nat.le_refl _)
    clear hwf k2 k3
    exact bodyPost_ret (v := .tuple #[.agg #[.slice A2 k c2], .int .i64 code]) (by simp [results, Try.results27, go_sem, q0]) rfl ⟨_, _, rfl, hbf, hof⟩
  · obtain ⟨rfl, rfl⟩ : zs = [] ∧ code = 1 := by
      rcases hres with ⟨h, _⟩ | ⟨h, _⟩ | ⟨_, h⟩
      · exact absurd h hp
      · exact absurd h hp
      · exact h
    have hk0 : k = 0 := by rw [← hk]; rfl
    subst hk0
    clear hk hres
    have HRK : Hid (RkRes f false) := hide (by unfold RkRes; simp [hp])
    have HP := hide hp
    clear hn hbs hr hp
    go_enter Try.func27, Try.ntmps27
    go_wp2_with fail
    refine (isRackI _ _ _ f false _ HN.out hb HBS.out (HRD.out.later HB0.out) HRK.out).mono ?_
    rintro e w1 ⟨rfl, hb1⟩
    have HB1 := hide (HB0.out.trans (hb1.mono HB0.out.size))
    have HK1 := hide (HK0.out.later hb1)
    have HR1 := hide (HR0.out.later hb1)
    clear hb1
    have k2 := HR1.out.cell 0 _ rfl
    have k3 := HR1.out.frozen 0
    go_wp2_with fail
    refine bp_gen fun wf hwf => ?_
    have HRF : Blk wf (w.heap.size + 1) 26 [.slice none 0 0] := by rw [hwf]; first | exact HR1.out | exact HR1.out.set 0 _ | exact (HR1.out.set 0 _).set 1 _
    have hbf : Below w.heap.size w wf := by rw [hwf]; first | exact HB1.out | exact HB1.out.setCell (p := ⟨w.heap.size + 1, 0, none⟩) (by show w.heap.size ≤ w.heap.size + 1; omega) _ | exact (HB1.out.setCell (p := ⟨w.heap.size + 1, 0, none⟩) (by show w.heap.size ≤ w.heap.size + 1; omega) _).setCell (p := ⟨w.heap.size + 1, 1, none⟩) (by show w.heap.size ≤ w.heap.size + 1; omega) _
    have q0 := HRF.cell 0 _ rfl
    clear hwf k2 k3
    exact bodyPost_ret (v := .tuple #[.agg #[.slice none 0 0], .int .i64 1]) (by simp [results, Try.results27, go_sem, q0]) rfl ⟨_, _, rfl, hbf, .inl ⟨rfl, rfl⟩⟩

end Go.Proofs.Ytkflmhmbkilmpab
namespace Go.Proofs.Ytkflmhmbkilmpab
open Go Go.RowKit

theorem clInfo : (Try.prog.info? 2).map (fun i => (i.zero, i.size, i.bytes)) = some (some (.int .i64 0), 1, 8) := by kernel_rfl
theorem cl_empty (w : World) (t : TypeId) : (w.alloc (.cells #[] t)).ownsRow w.heap.size t 1 (.slice (some ⟨w.heap.size, 0, none⟩) 0 0) 0 [] :=
  ⟨by simp, .inr ⟨w.heap.size, 0, #[], rfl, Nat.le_refl _, heap_alloc_new _ _, Nat.le_refl _, by unfold maxLen; omega, by simp, by simp⟩⟩

theorem cl_cells {w : World} {b o : Nat} {xs : List Int} {obj : Obj} (hc : ∀ i, i < xs.length → w.cell? ⟨b, o + i, none⟩ = some (.int .i64 (xs.getD i 0))) (hb : b < w.heap.size) : ∀ j u, (ints xs)[j]? = some u → (w.alloc obj).cell? ((⟨b, o, none⟩ : Addr).add j) = some u := by
  intro j u hj
  have hl : j < xs.length := by
    have := (List.getElem?_eq_some_iff.1 hj).1
    rw [ints_length] at this
    exact this
  have e : (⟨b, o, none⟩ : Addr).add j = ⟨b, o + j, none⟩ := by
    unfold Addr.add
    by_cases h : j = 0
    · subst h; simp
    · simp [h]
  rw [e, World.cell?_alloc_lt w _ _ hb, hc j hl, ← hj]
  simp [ints, hl]
end Go.Proofs.Ytkflmhmbkilmpab
namespace Go.Proofs.Ytkflmhmbkilmpab
open Go Go.RowKit
set_option maxHeartbeats 1000000

theorem own_any (b o : Nat) (n c : Nat) (xs : List Int) (w : World) (hn : xs.length = n) (hbn : n ≤ 1048576) (hb : b < w.heap.size) (hc : ∀ i, i < xs.length → w.cell? ⟨b, o + i, none⟩ = some (.int .i64 (xs.getD i 0))) :
    Calls Try.prog 63 #[.slice (some ⟨b, o, none⟩) n c] w fun e w' => ∃ v, e = .returned v ∧ Below w.heap.size w w' ∧ w'.ownsRow w.heap.size 2 1 v n (ints xs) := by
  have HN := hide hn
  have hcc := cl_cells (obj := .cells #[] 2) hc hb
  have HC := hide hcc
  clear hn hc hcc
  obtain ⟨i0, hi, hz0, hz1, hz2⟩ := info_parts clInfo
  go_enter Try.func63, Try.ntmps63
  go_wp2_with (at_builtin; refine wpList_append_own _ rfl _ _ 33 rfl w.heap.size 2 i0 (.int .i64 0) 1 8 Try.underlying33 hi hz0 hz1 hz2 rfl (by decide) _ _ _ rfl (cl_empty w 2) ⟨b, o, none⟩ n c (ints xs) rfl ?c1 HC.out ?c2 ?c3 ?c4 ?c5 ?_)
  case c1 => rw [ints_length]; have := HN.out; omega
  case c2 => intro u hu; simp [ints] at hu; obtain ⟨_, _, rfl⟩ := hu; rfl
  case c3 => unfold maxLen; omega
  case c4 => omega
  case c5 => simp
  intro v' w1 hown' hgrow _
  have HO' := hide hown'
  have HG := hide hgrow
  clear hown' hgrow
  go_wp2_with fail
  go_ret
  have h := HO'.out
  have hB : Below w.heap.size w w1 := ((Below.refl _ _).alloc (Nat.le_refl _) _).grown HG.out (by simp) (fun g hg => ((cl_empty w 2).lt g hg).1)
  exact ⟨v', rfl, hB, h⟩
end Go.Proofs.Ytkflmhmbkilmpab
namespace Go.Proofs.Ytkflmhmbkilmpab
open Go Go.RowKit
def kinkL (f : List (List Int)) : List Int := (List.range f.length).map fun (x : Nat) => ((ap f x x : Nat) : Int)
theorem kinkL_length (f : List (List Int)) : (kinkL f).length = f.length := by simp [kinkL]
theorem kinkL_getD (f : List (List Int)) (k : Nat) (h : k < f.length) : (kinkL f).getD k 0 = ((ap f k k : Nat) : Int) := by simp [kinkL, h]
def KinkRes (f : List (List Int)) (zs : List Int) (code : Int) : Prop := (Rck f ∧ zs = kinkL f ∧ code = 0) ∨ (¬ Rck f ∧ zs = [] ∧ code = 1)
theorem KinkRes.ex (f : List (List Int)) : ∃ zs code, KinkRes f zs code ∧ zs.length ≤ 1048576 := by
  by_cases h : Rck f
  · exact ⟨_, _, .inl ⟨h, rfl, rfl⟩, by rw [kinkL_length]; have := h.tbl.2.1; omega⟩
  · exact ⟨_, _, .inr ⟨h, rfl, rfl⟩, by simp⟩
theorem kq_take (zs : List Int) (k : Nat) (y : Int) (h : k < zs.length) (hy : zs.getD k 0 = y) : ints (zs.take k) ++ [.int .i64 y] = ints (zs.take (k + 1)) := by
  rw [List.take_succ_eq_append_getElem h]
  have : zs[k] = y := by simpa [h] using hy
  simp [ints, this]
theorem kq_empty (w : World) (t : TypeId) : (w.alloc (.cells #[] t)).ownsRow w.heap.size t 1 (.slice (some ⟨w.heap.size, 0, none⟩) 0 0) 0 [] :=
  ⟨by simp, .inr ⟨w.heap.size, 0, #[], rfl, Nat.le_refl _, heap_alloc_new _ _, Nat.le_refl _, by unfold maxLen; omega, by simp, by simp⟩⟩
theorem kq_new {w : World} {v : Value} {t : TypeId} : ∀ j u, [v][j]? = some u → (w.alloc (.cells #[v] t)).cell? ((⟨w.heap.size, 0, none⟩ : Addr).add j) = some u := by
  intro j u hj
  match j, hj with
  | 0, hj => simp at hj; subst hj; simp [Addr.add, World.cell?_alloc_new]
theorem kqInfo : (Try.prog.info? 2).map (fun i => (i.zero, i.size, i.bytes)) = some (some (.int .i64 0), 1, 8) := by kernel_rfl
/-- The last lines of a row that was filled from the front. -/
theorem kq_fill (zs : List Int) (n k : Nat) (hz : zs.length = n) (hk : k < n) : ((zs.take k ++ List.replicate (n - k) 0).set k (zs.getD k 0)) = zs.take (k + 1) ++ List.replicate (n - (k + 1)) 0 := by
  apply List.ext_getElem
  · simp; omega
  · intro i h1 h2
    simp only [List.getElem_set, List.getElem_append, List.length_take, List.getElem_take, List.getElem_replicate]
    by_cases e : k = i
    · subst e
      rw [if_pos rfl, dif_pos (by omega)]
      simp [show k < zs.length by omega]
    · rw [if_neg e]
      by_cases e2 : i < k
      · rw [dif_pos (by omega), dif_pos (by omega)]
      · rw [dif_neg (by omega), dif_neg (by omega)]
end Go.Proofs.Ytkflmhmbkilmpab
namespace Go.Proofs.Ytkflmhmbkilmpab
open Go Go.RowKit
set_option maxHeartbeats 2000000

theorem okInfo2 : (Try.prog.info? 33).map (fun i => (i.zero, i.size, i.bytes)) = some (some (.slice none 0 0), 1, 24) := by kernel_rfl

theorem ownk_any (A : Option Addr) (n c : Nat) (rows : List (List Int)) (w : World)
    (hn : rows.length = n) (h1 : 1 ≤ n) (hb : n ≤ 1048576) (hbs : ∀ i, i < rows.length → (rows.getD i []).length = n) (hr : Rd2 w A rows) :
    Calls Try.prog 78 #[.slice A n c] w fun e w' => ∃ A' c', e = .returned (.slice A' n c') ∧ Below w.heap.size w w' ∧ Obj2 33 2 w.heap.size w'.heap.size w' A' rows := by
  have HN := hide hn
  clear hn
  obtain ⟨i0, hi, hz0, hz1, hz2⟩ := info_parts okInfo2
  go_enter Try.func78, Try.ntmps78
  go_wp2_with fail
  go_loopw [3, 4] (fun v i wr => ∃ (k : Nat) (vals : List Value), k ≤ n ∧ i = .int .i64 k ∧ Below w.heap.size w wr ∧ LstV 33 2 w.heap.size wr v (rows.take k) vals ∧ w.heap.size ≤ wr.heap.size) (fun _ i _ => n - (intOf i).toNat)
  case atStart => exact ⟨0, [], Nat.zero_le _, rfl, (Below.refl _ _).alloc (Nat.le_refl _) _, by simpa using LstV.start w _ _, by simp⟩
  case round =>
    obtain ⟨k, vals, hk, rfl, hbe, hlst, hsz⟩ := hrel
    have HB := hide hbe
    have HL := hide hlst
    clear hbe hlst
    by_cases hlt : k < n
    · have hltz : (k : Int) < n := by omega
      obtain ⟨b, o, rfl, hbw, hc⟩ := hr (by have := HN.out; omega)
      obtain ⟨Ax, cx, hcell, hrd⟩ := hc k (by have := HN.out; omega)
      have hl := hbs k (by have := HN.out; omega)
      obtain ⟨r, hx'⟩ : ∃ r, r = rows.getD k [] := ⟨_, rfl⟩
      rw [← hx'] at hcell hrd hl
      rw [hl] at hcell
      have hcell' : wr.cell? ⟨b, o + k, none⟩ = some (.slice Ax n cx) := (HB.out.cell (p := ⟨b, o + k, none⟩) hbw).trans hcell
      have HX := hide hx'
      have HLL := hide hl
      obtain ⟨b2, o2, rfl, hbw2, hc2⟩ := hrd (by have := HLL.out; omega)
      have HC2 := hide hc2
      clear hx' hc hl hcell hbs hc2 hrd
      go_wp2_with fail
      refine (own_any b2 o2 n cx r _ HLL.out hb (by have := HB.out.size; omega) (fun i hi => (HB.out.cell (p := ⟨b2, o2 + i, none⟩) hbw2).trans (HC2.out i hi))).mono ?_
      rintro e w2 ⟨v2, rfl, hb2, how2⟩
      have HB2 := hide hb2
      have HOW2 := hide how2
      clear hb2 how2
      obtain ⟨A4, c4, hv4, hres4⟩ := own_shape HOW2.out
      rw [← HLL.out] at hv4
      subst hv4
      have HR4 := hide hres4.obj
      have hs4 := HB2.out.size
      have hlen : (ints r).length = n := by rw [ints_length]; exact HLL.out
      clear hres4
      have hlt0 : (rows.take k).length = k := by have := HN.out; simp; omega
      have HLT := hide hlt0
      have hown : w2.ownsRow w.heap.size 33 1 u3 k vals := by have := (HL.out.later HB2.out).own; rwa [hlt0] at this
      have HO := hide hown
      clear hown hlt0 hlen
      go_wp2_with (at_builtin; refine wpList_append_own _ rfl _ _ 22 rfl w.heap.size 33 i0 (.slice none 0 0) 1 24 Try.underlying22 hi hz0 hz1 hz2 rfl (by decide) _ _ _ rfl (HO.out.alloc _) ⟨w2.heap.size, 0, none⟩ 1 1 [.slice A4 r.length c4] rfl rfl ?c1 ?c2 ?c3 ?c4 ?c5 ?_)
      case c1 => exact kq_new
      case c2 => intro u hu; simp at hu; subst hu; rfl
      case c3 => unfold maxLen; omega
      case c4 => omega
      case c5 => simp; omega
      intro v' w3 hown' hgrow _
      have HO' := hide hown'
      have HG := hide hgrow
      clear hown' hgrow
      go_wp2_with fail
      go_roundw
      case rel =>
        have hB3 : Below w.heap.size w w3 := ((HB.out.trans (HB2.out.mono hsz)).alloc (by omega) _).grown HG.out (by simp; omega) (fun g hg => ((HO.out.alloc (.cells #[.slice A4 r.length c4] 33)).lt g hg).1)
        have hpush := LstV.push (tmp := .cells #[.slice A4 r.length c4] 33) (A := A4) (c := c4) (r := r) (w1 := w3) (v' := v') (by decide) hsz HL.out HB2.out HR4.out (by rw [HLT.out]; exact HO'.out) HG.out
        have e : rows.take (k + 1) = rows.take k ++ [r] := by
          have hl : k < rows.length := by have := HN.out; omega
          rw [List.take_succ_eq_append_getElem hl, HX.out]
          simp [hl]
        refine ⟨k + 1, vals ++ [.slice A4 r.length c4], by omega, by go_num, hB3, by rw [e]; exact hpush, by have := hB3.size; omega⟩
      case measure => simp [intOf]; omega
    · have hkn : k = n := by omega
      subst hkn
      go_wp2_with fail
      go_ret
      obtain ⟨A', c', hv, hobj⟩ := HL.out.shape
      have e : rows.take k = rows := List.take_of_length_le (by have := HN.out; omega)
      rw [e] at hv hobj
      exact ⟨A', c', by rw [← HN.out, ← hv]; rfl, HB.out, hobj⟩
end Go.Proofs.Ytkflmhmbkilmpab
namespace Go.Proofs.Ytkflmhmbkilmpab
open Go Go.RowKit
set_option maxHeartbeats 2000000
def tabF (rows : List (List Int)) : Nat → Nat → Int := fun a b => (rows.getD a []).getD b 0

set_option maxRecDepth 100000 in
theorem imageS_any (A : Option Addr) (n c : Nat) (rows : List (List Int)) (D : Option Addr) (d : Nat) (p : List Int) (w : World)
    (hn : rows.length = n) (hm : p.length = n) (h1 : 1 ≤ n) (hb : n ≤ 1048576) (hbs : ∀ i, i < rows.length → (rows.getD i []).length = n) (hin : ∀ i j, i < n → j < n → 0 ≤ (rows.getD i []).getD j 0 ∧ (rows.getD i []).getD j 0 < (n : Int)) (hpin : ∀ x ∈ p, 0 ≤ x ∧ x < (n : Int))
    (hr : Rd2 w A rows) (hp : Rd w D p) :
    Calls Try.prog 76 #[.slice A n c, .slice D n d] w fun e w' => ∃ A' c', e = .returned (.slice A' n c') ∧ Below w.heap.size w w' ∧ Obj2 33 2 w.heap.size w'.heap.size w' A' (grid n (renTo rows p n n (tabF rows))) := by
  obtain ⟨k, hkn0⟩ : ∃ k, n = k := ⟨_, rfl⟩
  subst hkn0
  have HN := hide hn
  have HM := hide hm
  clear hn hm
  go_enter Try.func76, Try.ntmps76
  go_wp2_with fail
  refine (ownk_any A n c rows _ HN.out h1 hb hbs hr).mono ?_
  rintro e wr ⟨A1, c1, rfl, hb1, hobj⟩
  obtain ⟨g, G, rfl, hg1, hg2, hG, htab⟩ := hobj.tabF (by decide) h1 HN.out (fun i hi => hbs i (by have := HN.out; omega))
  have HT := hide htab
  have HHG := hide hG
  have HB := hide hb1
  clear htab hG hobj hb1
  go_wp2_with fail
  obtain ⟨w1, hw1⟩ : ∃ w1 : World, w1 = wr := ⟨_, rfl⟩
  subst hw1
  have HW1 : Hid (Below w.heap.size w w1) := HB
  clear HB
  go_loopw [6] (fun i wr => ∃ x : Nat, x ≤ n ∧ i = .int .i64 x ∧ Below w.heap.size w wr ∧ TabF 33 2 wr g G n (renTo rows p n x (tabF rows)) ∧ wr.heap.size = w1.heap.size) (fun i _ => n - (intOf i).toNat)
  case atStart => exact ⟨0, Nat.zero_le _, rfl, HW1.out, HT.out, rfl⟩
  case round =>
    obtain ⟨x, hx, rfl, hbx, htab, hsx⟩ := hrel
    have HBX := hide hbx
    have HT2 := hide htab
    have HS2 := hide hsx
    clear hbx htab hsx
    by_cases hlx : x < n
    · obtain ⟨b, o, rfl, hbw, hc⟩ := hr (by have := HN.out; omega)
      obtain ⟨Ax, cx, hcell, hrd⟩ := hc x (by have := HN.out; omega)
      have hl := hbs x (by have := HN.out; omega)
      obtain ⟨r, hx'⟩ : ∃ r, r = rows.getD x [] := ⟨_, rfl⟩
      rw [← hx'] at hcell hrd hl
      rw [hl] at hcell
      have HX := hide hx'
      have HL := hide hl
      have HCELL := hide hcell
      obtain ⟨px, hpx, hpxn⟩ := elem_range hpin (i := x) (by have := HM.out; omega)
      have HPX := hide hpx
      obtain ⟨b3, o3, rfl, hbw3, hc3⟩ := hp (by have := HM.out; omega)
      have HC3 := hide hc3
      have HHIN := hide hin
      have HPIN := hide hpin
      have e1 : wr.cell? ⟨b3, o3 + x, none⟩ = some (.int .i64 px) := by rw [← hpx]; exact (HBX.out.cell (p := ⟨b3, o3 + x, none⟩) hbw3).trans (hc3 x (by have := HM.out; omega))
      obtain ⟨C, htop⟩ := HT2.out.top
      have e4 : wr.cell? ⟨g, px, none⟩ = some (.slice (some ⟨G px, 0, none⟩) n (C px)) := htop.cell hpxn
      clear hx' hc hl hcell hbs hpx hc3 hin hpin htop
      have hltz : (x : Int) < n := by omega
      have hpxz : (px : Int) < n := by omega
      go_wp2_with fail
      obtain ⟨wo, rfl⟩ : ∃ wo : World, wo = wr := ⟨_, rfl⟩
      clear e1 e4
      go_loopw [7] (fun i wi => ∃ y : Nat, y ≤ n ∧ i = .int .i64 y ∧ Below w.heap.size w wi ∧ TabF 33 2 wi g G n (renRow rows p x y (renTo rows p n x (tabF rows))) ∧ wi.heap.size = w1.heap.size) (fun i _ => n - (intOf i).toNat)
      case atStart => exact ⟨0, Nat.zero_le _, rfl, HBX.out, HT2.out, HS2.out⟩
      case round =>
        obtain ⟨y, hy, rfl, hti, htabi, hsi⟩ := hrel
        have HTI := hide hti
        have HTB := hide htabi
        have HSI := hide hsi
        clear hti htabi hsi
        by_cases hlty : y < n
        · obtain ⟨b2, o2, rfl, hbw2, hc2⟩ := hrd (by have := HL.out; omega)
          have hv : wr.cell? ⟨b2, o2 + y, none⟩ = some (.int .i64 (r.getD y 0)) := (HTI.out.cell (p := ⟨b2, o2 + y, none⟩) hbw2).trans (hc2 y (by have := HL.out; omega))
          have hrow : wr.cell? ⟨b, o + x, none⟩ = some (.slice (some ⟨b2, o2, none⟩) n cx) := (HTI.out.cell (p := ⟨b, o + x, none⟩) hbw).trans HCELL.out
          have hzr := HHIN.out x y hlx hlty
          rw [← HX.out] at hzr
          obtain ⟨z, hz⟩ := Int.eq_ofNat_of_zero_le hzr.1
          rw [hz] at hv
          have hzn : z < n := by have := hzr.2; omega
          have HZ := hide hz
          obtain ⟨py, hpy, hpyn⟩ := elem_range HPIN.out (i := y) (by have := HM.out; omega)
          have HPY := hide hpy
          obtain ⟨q, hq⟩ : ∃ q, p.getD z 0 = q := ⟨_, rfl⟩
          have HQ := hide hq
          have e1 : wr.cell? ⟨b3, o3 + x, none⟩ = some (.int .i64 px) := by rw [← HPX.out]; exact (HTI.out.cell (p := ⟨b3, o3 + x, none⟩) hbw3).trans (HC3.out x (by have := HM.out; omega))
          obtain ⟨C, htop⟩ := HTB.out.top
          have e4 : wr.cell? ⟨g, px, none⟩ = some (.slice (some ⟨G px, 0, none⟩) n (C px)) := htop.cell hpxn
          clear htop
          have e2 : wr.cell? ⟨b3, o3 + y, none⟩ = some (.int .i64 py) := by rw [← hpy]; exact (HTI.out.cell (p := ⟨b3, o3 + y, none⟩) hbw3).trans (HC3.out y (by have := HM.out; omega))
          have e3 : wr.cell? ⟨b3, o3 + z, none⟩ = some (.int .i64 q) := by rw [← hq]; exact (HTI.out.cell (p := ⟨b3, o3 + z, none⟩) hbw3).trans (HC3.out z (by have := HM.out; omega))
          have e5 := (HTB.out.row px hpxn).cell hpyn
          obtain ⟨old, hold⟩ : ∃ q, renRow rows p x y (renTo rows p n x (tabF rows)) px py = q := ⟨_, rfl⟩
          rw [hold] at e5
          have e6 : wr.frozen? ⟨G px, py, none⟩ = false := (HTB.out.row px hpxn).frozen py
          clear hz hzr hold hc2 hrd hpy hq
          have hltyz : (y : Int) < n := by omega
          have hpyz : (py : Int) < n := by omega
          have hzz : (z : Int) < n := by omega
          go_wp2_with fail
          go_still_tail 21, (by kernel_rfl)
          change wpList _ _ _ _ _ wr.drew
          go_wp2_with fail
          go_roundw
          case rel =>
            have hset := HTB.out.set px py q hpxn
            have hg := HHG.out px hpxn
            refine ⟨y + 1, by omega, by go_num, (HTI.out.setCell (p := ⟨G px, py, none⟩) hg.1 _).drew, ?_, by have := HSI.out; simpa [World.setCell, World.drew] using this⟩
            have h2 : TabF 33 2 ((wr.setCell ⟨G px, py, none⟩ (.int .i64 q)).drew) g G n (fun a b => if a = px ∧ b = py then q else renRow rows p x y (renTo rows p n x (tabF rows)) a b) := ⟨hset.top, hset.row, hset.ne, hset.inj⟩
            refine h2.congr (fun a b _ _ => ?_)
            have e1 : (p.getD x 0).toNat = px := by rw [HPX.out]; simp
            have e2 : (p.getD y 0).toNat = py := by rw [HPY.out]; simp
            have e3 : ((rows.getD x []).getD y 0).toNat = z := by rw [← HX.out, HZ.out]; simp
            simp only [renRow]
            rw [e1, e2, e3, HQ.out]
          case measure => simp [intOf]; omega
        · have hyn : y = n := by omega
          subst hyn
          go_wp2_with fail
          go_roundw
          case rel => exact ⟨x + 1, by omega, by go_num, HTI.out, HTB.out, HSI.out⟩
          case measure => simp [intOf]; omega
    · have hxn : x = n := by omega
      subst hxn
      go_wp2_with fail
      go_ret
      refine ⟨_, _, rfl, HBX.out, ?_⟩
      have e := HN.out
      have hs := HS2.out
      exact HT2.out.obj hg1 (by omega) (fun i hi => by have := HHG.out i hi; omega)
end Go.Proofs.Ytkflmhmbkilmpab
namespace Go.Proofs.Ytkflmhmbkilmpab
open Go Go.RowKit
set_option maxHeartbeats 1000000

theorem same_any (A B : Option Addr) (n c m d : Nat) (xs ys : List Int) (r : Bool) (w : World) (hn : xs.length = n) (hm : ys.length = m) (hb : n ≤ 9223372036854775807) (hb2 : m ≤ 9223372036854775807) (hx : Rd w A xs) (hy : Rd w B ys) (hr : r = true ↔ xs = ys) :
    Calls Try.prog 95 #[.slice A n c, .slice B m d] w fun e w' => e = .returned (.bool r) ∧ Quiet w w' := by
  have HN := hide hn
  have HM := hide hm
  have HR := hide hr
  clear hr
  by_cases hnm : n = m
  · subst hnm
    clear hn hm
    go_enter Try.func95, Try.ntmps95
    go_wp2_with fail
    go_loopw [5] (fun i wr => ∃ k : Nat, k ≤ n ∧ i = .int .i64 k ∧ Quiet w wr ∧ ∀ i, i < k → xs.getD i 0 = ys.getD i 0) (fun i _ => n - (intOf i).toNat)
    case atStart => exact ⟨0, Nat.zero_le _, rfl, Quiet.refl w, fun i hi => absurd hi (Nat.not_lt_zero _)⟩
    case round =>
      obtain ⟨k, hk, rfl, hq, hall⟩ := hrel
      have HQ := hide hq
      clear hq
      have HALL := hide hall
      clear hall
      by_cases hlt : k < n
      · obtain ⟨b, o, rfl, _, hc⟩ := HQ.out.rd hx (by have := HN.out; omega)
        obtain ⟨b2, o2, rfl, _, hc2⟩ := HQ.out.rd hy (by have := HM.out; omega)
        have h1 := hc k (by have := HN.out; omega)
        have h2 := hc2 k (by have := HM.out; omega)
        obtain ⟨x, hx⟩ : ∃ x, x = xs.getD k 0 := ⟨_, rfl⟩
        obtain ⟨y, hy⟩ : ∃ y, y = ys.getD k 0 := ⟨_, rfl⟩
        rw [← hx] at h1
        rw [← hy] at h2
        have HX := hide hx
        have HY := hide hy
        clear hx hy hc hc2
        have hltz : (k : Int) < n := by omega
        by_cases hxy : x = y
        · subst hxy
          go_wp2_with fail
          go_quiet (fail)
          go_wp2_with fail
          go_roundw
          case rel =>
            refine ⟨k + 1, by omega, by go_num, HQ.out.drewN _, fun i hi => ?_⟩
            by_cases e : i = k
            · subst e; rw [← HX.out]; exact HY.out
            · exact HALL.out i (by omega)
          case measure => simp [intOf]; omega
        · have hne : (x != y) = true := by simpa using hxy
          have HNE := hide hxy
          clear hxy
          go_wp2_with fail
          go_quiet (fail)
          go_wp2_with fail
          go_ret
          have : r = false := by
            cases r
            · rfl
            · have e := HR.out.1 rfl
              subst e
              exact absurd (HX.out.trans HY.out.symm) HNE.out
          exact ⟨by subst this; rfl, by first | exact HQ.out | exact HQ.out.drewN _ | exact Quiet.refl _⟩
      · have hkn : k = n := by omega
        subst hkn
        go_wp2_with fail
        go_ret
        have this := HR.out.2 (eqList xs ys (HN.out.trans HM.out.symm) (fun i hi => HALL.out i (by have := HN.out; omega)))
        exact ⟨by subst this; rfl, by first | exact HQ.out | exact HQ.out.drewN _ | exact Quiet.refl _⟩
  · have hne : ((n : Int) != (m : Int)) = true := by simp; omega
    have HNM := hide hnm
    clear hn hm hnm
    go_enter Try.func95, Try.ntmps95
    go_wp2_with fail
    go_ret
    have : r = false := by
      cases r
      · rfl
      · have e := HR.out.1 rfl
        subst e
        exact absurd (HN.out.symm.trans HM.out) HNM.out
    exact ⟨by subst this; rfl, by first | exact HQ.out | exact HQ.out.drewN _ | exact Quiet.refl _⟩

theorem less_any (A B : Option Addr) (n c d : Nat) (xs ys : List Int) (w : World) (hn : xs.length = n) (hm : ys.length = n) (hb : n ≤ 1048576) (hx : Rd w A xs) (hy : Rd w B ys) :
    Calls Try.prog 96 #[.slice A n c, .slice B n d] w fun e w' => e = .returned (.bool (lessL xs ys)) ∧ Quiet w w' := by
  have HN := hide hn
  have HM := hide hm
  clear hn hm
  go_enter Try.func96, Try.ntmps96
  go_wp2_with fail
  go_loopw [5] (fun i wr => ∃ k : Nat, k ≤ n ∧ i = .int .i64 k ∧ Quiet w wr ∧ lessL xs ys = lessL (xs.drop k) (ys.drop k)) (fun i _ => n - (intOf i).toNat)
  case atStart => exact ⟨0, Nat.zero_le _, rfl, Quiet.refl w, rfl⟩
  case round =>
    obtain ⟨k, hk, rfl, hq, hall⟩ := hrel
    have HQ := hide hq
    have HALL := hide hall
    clear hq hall
    by_cases hlt : k < n
    · obtain ⟨b, o, rfl, _, hc⟩ := HQ.out.rd hx (by have := HN.out; omega)
      obtain ⟨b2, o2, rfl, _, hc2⟩ := HQ.out.rd hy (by have := HM.out; omega)
      have h1 := hc k (by have := HN.out; omega)
      have h2 := hc2 k (by have := HM.out; omega)
      have e1 := drop_cons xs k (by have := HN.out; omega)
      have e2 := drop_cons ys k (by have := HM.out; omega)
      obtain ⟨x, hx⟩ : ∃ x, xs.getD k 0 = x := ⟨_, rfl⟩
      obtain ⟨y, hy⟩ : ∃ y, ys.getD k 0 = y := ⟨_, rfl⟩
      rw [hx] at h1 e1
      rw [hy] at h2 e2
      have E1 := hide e1
      have E2 := hide e2
      clear hx hy hc hc2 e1 e2
      have hltz : (k : Int) < n := by omega
      by_cases hxy : x = y
      · subst hxy
        go_wp2_with fail
        go_quiet (fail)
        go_wp2_with fail
        go_roundw
        case rel =>
          refine ⟨k + 1, by omega, by go_num, HQ.out.drewN _, ?_⟩
          rw [HALL.out, E1.out, E2.out, lessL, if_pos rfl]
        case measure => simp [intOf]; omega
      · have hne : (x != y) = true := by simpa using hxy
        have HNE := hide hxy
        clear hxy
        have hres : lessL xs ys = decide (x < y) := by
          rw [HALL.out, E1.out, E2.out, lessL, if_neg HNE.out]
        have HRES := hide hres
        clear hres
        go_wp2_with fail
        go_quiet (fail)
        go_wp2_with fail
        go_quiet (fail)
        go_wp2_with fail
        go_ret
        exact ⟨by rw [HRES.out]; rfl, (HQ.out.drewN _).drewN _⟩
    · have hkn : k = n := by omega
      subst hkn
      go_wp2_with fail
      go_ret
      have h := HALL.out
      rw [List.drop_of_length_le (by have := HN.out; omega), List.drop_of_length_le (by have := HM.out; omega)] at h
      exact ⟨by rw [h]; simp [lessL], HQ.out⟩
end Go.Proofs.Ytkflmhmbkilmpab
namespace Go.Proofs.Ytkflmhmbkilmpab
open Go Go.RowKit
set_option maxHeartbeats 1000000

set_option maxRecDepth 100000 in
theorem befS_any (ba ca bb cb : Nat) (A B : Option Addr) (n c d : Nat) (xs ys : List (List Int)) (w : World) (hn : xs.length = n) (hm : ys.length = n) (hb : n ≤ 1048576) (hxs : ∀ i, i < xs.length → (xs.getD i []).length = n) (hys : ∀ i, i < ys.length → (ys.getD i []).length = n) (ha : w.cell? ⟨ba, 0, none⟩ = some (.slice A n c)) (hbc : w.cell? ⟨bb, 0, none⟩ = some (.slice B n d)) (hx : Rd2 w A xs) (hy : Rd2 w B ys) :
    Calls Try.prog 77 #[.slice (some ⟨ba, 0, none⟩) 1 ca, .slice (some ⟨bb, 0, none⟩) 1 cb] w fun e w' => e = .returned (.bool (lessT xs ys)) ∧ Quiet w w' := by
  have HN := hide hn
  have HM := hide hm
  have HA := hide ha
  have HBB := hide hbc
  clear hn hm ha hbc
  go_enter Try.func77, Try.ntmps77
  go_wp2_with fail
  go_loopw [5] (fun i wr => ∃ q : Nat, q ≤ 1 ∧ i = .int .i64 q ∧ Quiet w wr ∧ (q = 1 → lessT xs ys = false)) (fun i _ => 1 - (intOf i).toNat)
  case atStart => exact ⟨0, Nat.zero_le _, rfl, Quiet.refl w, fun h => by cases h⟩
  case round =>
    obtain ⟨q, hq1, rfl, hq, hfin⟩ := hrel
    have HQ := hide hq
    clear hq
    by_cases hlq : q < 1
    · have hq0 : q = 0 := by omega
      subst hq0
      clear hfin
      have ha2 := (HQ.out.cell ⟨ba, 0, none⟩).trans HA.out
      go_wp2_with fail
      clear ha2
      go_loopw [6] (fun i wi => ∃ k : Nat, k ≤ n ∧ i = .int .i64 k ∧ Quiet w wi ∧ lessT xs ys = lessT (xs.drop k) (ys.drop k)) (fun i _ => n - (intOf i).toNat)
      case atStart => exact ⟨0, Nat.zero_le _, rfl, HQ.out, rfl⟩
      case round =>
        clear HQ
        obtain ⟨k, hk, rfl, hq, hall⟩ := hrel
        have HQ := hide hq
        have HALL := hide hall
        clear hq hall
        by_cases hlt : k < n
        · have ha2 := (HQ.out.cell ⟨ba, 0, none⟩).trans HA.out
          have hb2 := (HQ.out.cell ⟨bb, 0, none⟩).trans HBB.out
          obtain ⟨b, o, rfl, _, hc⟩ := HQ.out.rd2 hx (by have := HN.out; omega)
          obtain ⟨b2, o2, rfl, _, hc2⟩ := HQ.out.rd2 hy (by have := HM.out; omega)
          obtain ⟨A1, c1, h1, r1⟩ := hc k (by have := HN.out; omega)
          obtain ⟨A2, c2, h2, r2⟩ := hc2 k (by have := HM.out; omega)
          have l1 := hxs k (by have := HN.out; omega)
          have l2 := hys k (by have := HM.out; omega)
          have e1 := drop_cons2 xs k (by have := HN.out; omega)
          have e2 := drop_cons2 ys k (by have := HM.out; omega)
          obtain ⟨x, hx⟩ : ∃ x, xs.getD k [] = x := ⟨_, rfl⟩
          obtain ⟨y, hy⟩ : ∃ y, ys.getD k [] = y := ⟨_, rfl⟩
          rw [hx] at h1 e1 r1 l1
          rw [hy] at h2 e2 r2 l2
          rw [l1] at h1
          rw [l2] at h2
          have E1 := hide e1
          have E2 := hide e2
          have L1 := hide l1
          have L2 := hide l2
          have R1 := hide r1
          have R2 := hide r2
          clear hx hy hc hc2 e1 e2 l1 l2 hxs hys r1 r2
          have hltz : (k : Int) < n := by omega
          by_cases hxy : x = y
          · subst hxy
            go_wp2_with fail
            go_quiet ((go_at_call 95; exact quiet_call (same_any _ _ _ _ _ _ x x true _ L1.out L1.out (by omega) (by omega) R1.out R2.out (by simp))))
            go_wp2_with fail
            go_roundw
            case rel =>
              refine ⟨k + 1, by omega, by go_num, HQ.out.drewN _, ?_⟩
              rw [HALL.out, E1.out, E2.out, lessT, if_pos rfl]
            case measure => simp [intOf]; omega
          · have HNE := hide hxy
            clear hxy
            have hres : lessT xs ys = lessL x y := by
              rw [HALL.out, E1.out, E2.out, lessT, if_neg HNE.out]
            have HRES := hide hres
            clear hres
            go_wp2_with fail
            go_quiet ((go_at_call 95; exact quiet_call (same_any _ _ _ _ _ _ x y false _ L1.out L2.out (by omega) (by omega) R1.out R2.out (by simp [HNE.out]))))
            obtain ⟨w5, hw5⟩ : ∃ w5, wr.drewN nq = w5 := ⟨_, rfl⟩
            have a5 : w5.cell? ⟨ba, 0, none⟩ = some (.slice (some ⟨b, o, none⟩) n c) := by subst hw5; exact ha2
            have b5 : w5.cell? ⟨bb, 0, none⟩ = some (.slice (some ⟨b2, o2, none⟩) n d) := by subst hw5; exact hb2
            have h1' : w5.cell? ⟨b, o + k, none⟩ = some (.slice A1 n c1) := by subst hw5; exact h1
            have h2' : w5.cell? ⟨b2, o2 + k, none⟩ = some (.slice A2 n c2) := by subst hw5; exact h2
            have R1' : Hid (Rd w5 A1 x) := hide (by subst hw5; exact R1.out)
            have R2' : Hid (Rd w5 A2 y) := hide (by subst hw5; exact R2.out)
            have HQ5 : Hid (Quiet w w5) := hide (by subst hw5; exact HQ.out.drewN _)
            rw [hw5]
            clear h1 h2 ha2 hb2 hw5
            go_wp2_with fail
            go_quiet ((go_at_call 96; exact quiet_call (less_any _ _ _ _ _ x y _ L1.out L2.out hb R1'.out R2'.out)))
            go_wp2_with fail
            go_ret
            exact ⟨by rw [HRES.out]; rfl, HQ5.out.drewN _⟩
        · have hkn : k = n := by omega
          subst hkn
          have ha2 := (HQ.out.cell ⟨ba, 0, none⟩).trans HA.out
          go_wp2_with fail
          go_roundw
          case rel => exact ⟨1, by omega, by go_num, HQ.out, fun _ => by
            have h := HALL.out
            rw [List.drop_of_length_le (by have := HN.out; omega), List.drop_of_length_le (by have := HM.out; omega)] at h
            rw [h]; rfl⟩
          case measure => simp [intOf]
    · have hq1 : q = 1 := by omega
      subst hq1
      have hf := hfin rfl
      go_wp2_with fail
      go_ret
      exact ⟨rfl, HQ.out⟩
end Go.Proofs.Ytkflmhmbkilmpab
namespace Go.Proofs.Ytkflmhmbkilmpab
open Go Go.RowKit
/-- A table keeps where its blocks keep. -/
theorem Obj2.keep {ts t : TypeId} {lo hi : Nat} {w w' : World} {A : Option Addr} {rows : List (List Int)} (h : Obj2 ts t lo hi w A rows) (hs : ∀ k, lo ≤ k → k < hi → w'.heap[k]? = w.heap[k]?) : Obj2 ts t lo hi w' A rows := by
  rcases h with h | ⟨g, R, C, e, a, b, ⟨cur, c1, c2⟩, d, f⟩
  · exact .inl h
  · refine .inr ⟨g, R, C, e, a, b, ⟨cur, (hs g a b).trans c1, c2⟩, fun i hi' => ?_, f⟩
    rcases d i hi' with h | ⟨g2, h1, h2, h3, h4⟩
    · exact .inl h
    · exact .inr ⟨g2, h1, h2, h3, h4.of_block (hs g2 h2 h3)⟩
/-- One table is appended to an empty list of tables in block L. -/
theorem app_one {ts t e : TypeId} {w w1 : World} {L lo hi n c : Nat} {A : Option Addr} {rows : List (List Int)} {v' : Value} {tmp : Obj} (hL : L < w.heap.size)
    (hown : w1.ownsRow L e 1 v' (0 + 1) ([] ++ [.slice A n c])) (hg : (w.alloc tmp).grownBy w1 (some L)) (hO : Obj2 ts t lo hi w A rows) (hlo : L < lo) (hhi : hi ≤ w.heap.size) :
    ∃ g cap, v' = .slice (some ⟨g, 0, none⟩) 1 cap ∧ w1.cell? ⟨g, 0, none⟩ = some (.slice A n c) ∧ g < w1.heap.size ∧ Obj2 ts t lo hi w1 A rows ∧ Below L w w1 := by
  obtain ⟨g, cap, hv⟩ := own_form hown
  have hb : v'.ownBlock = some g := by rw [hv]; rfl
  have hc := hown.cells hb 0 (.slice A n c) rfl
  have hlt := (hown.lt g hb).2
  refine ⟨g, cap, hv, by simpa [Addr.add] using hc, hlt, ?_, ?_⟩
  · exact hO.keep fun k h1 h2 => (hg.block k (by simp; omega) (fun e => by injection e with e; omega)).trans (((Below.refl w.heap.size w).alloc (Nat.le_refl _) tmp).block k (by omega))
  · exact ((Below.refl L w).alloc (by omega) tmp).grown hg (by simp; omega) (fun k e => by injection e with e; omega)
end Go.Proofs.Ytkflmhmbkilmpab
namespace Go.Proofs.Ytkflmhmbkilmpab
open Go Go.RowKit
set_option maxHeartbeats 400000

/-- The first index, or -1. -/
def ixOf (xs : List Int) (v : Int) : Int := if v ∈ xs then (xs.idxOf v : Int) else -1

theorem ixOf_at (xs : List Int) (v : Int) (k : Nat) (hk : k < xs.length) (hv : xs.getD k 0 = v) (hno : v ∉ xs.take k) : ixOf xs v = k := by
  have e : xs = xs.take k ++ v :: xs.drop (k + 1) := by
    rw [← hv]
    simp [hk]
  have hm : v ∈ xs := by rw [e]; simp
  unfold ixOf
  rw [if_pos hm]
  rw [e, List.idxOf_append, if_neg hno]
  simp
  omega

theorem ixOf_no (xs : List Int) (v : Int) (hno : v ∉ xs) : ixOf xs v = -1 := by
  unfold ixOf
  rw [if_neg hno]

theorem index_any (A : Option Addr) (n c : Nat) (xs : List Int) (v : Int) (w : World) (hn : xs.length = n) (hb : n ≤ 9223372036854775807) (hr : Rd w A xs) :
    Calls Try.prog 114 #[.slice A n c, .int .i64 v] w fun e w' => e = .returned (.int .i64 (ixOf xs v)) ∧ Quiet w w' := by
  have HN := hide hn
  clear hn
  go_enter Try.func114, Try.ntmps114
  go_wp2_with fail
  go_loopw [5] (fun i wr => ∃ k : Nat, k ≤ n ∧ i = .int .i64 k ∧ Quiet w wr ∧ v ∉ xs.take k) (fun i _ => n - (intOf i).toNat)
  case atStart => exact ⟨0, Nat.zero_le _, rfl, Quiet.refl _, by simp⟩
  case round =>
    obtain ⟨k, hk, rfl, hq, hno⟩ := hrel
    have HNO := hide hno
    have HQ := hide hq
    clear hno hq
    by_cases hlt : k < n
    · obtain ⟨b, o, rfl, hbw, hc⟩ := HQ.out.rd hr (by have := HN.out; omega)
      have hc1 := hc k (by have := HN.out; omega)
      have hl : k < xs.length := by have := HN.out; omega
      have HL := hide hl
      obtain ⟨x, hx⟩ : ∃ x, xs.getD k 0 = x := ⟨_, rfl⟩
      rw [hx] at hc1
      have HX := hide hx
      clear hx hc hl
      have hltz : (k : Int) < n := by omega
      by_cases hxv : x = v
      · have HXV := hide hxv
        have hxb : (x == v) = true := by simpa using hxv
        clear hxv
        go_wp2_with fail
        go_ret
        have e := ixOf_at xs v k HL.out (HX.out.trans HXV.out) HNO.out
        exact ⟨by rw [e]; rfl, HQ.out⟩
      · have HXV := hide hxv
        have hxb : (x == v) = false := by simpa using hxv
        clear hxv
        go_wp2_with fail
        go_roundw
        case rel =>
          refine ⟨k + 1, by omega, by go_num, HQ.out, ?_⟩
          rw [List.take_succ_eq_append_getElem HL.out]
          intro h
          rcases List.mem_append.1 h with h | h
          · exact HNO.out h
          · have := HX.out
            have hl := HL.out
            simp [hl] at this
            simp [this] at h
            exact HXV.out h.symm
        case measure => simp [intOf]; omega
    · have hkn : k = n := by omega
      subst hkn
      go_wp2_with fail
      go_ret
      have h := HNO.out
      rw [List.take_of_length_le (by have := HN.out; omega)] at h
      exact ⟨by rw [ixOf_no xs v h]; rfl, HQ.out⟩

theorem has_any (A : Option Addr) (n c : Nat) (xs : List Int) (v : Int) (r : Bool) (w : World) (hn : xs.length = n) (hb : n ≤ 9223372036854775807) (hr : Rd w A xs) (hrr : r = true ↔ v ∈ xs) :
    Calls Try.prog 90 #[.slice A n c, .int .i64 v] w fun e w' => e = .returned (.bool r) ∧ Quiet w w' := by
  have HN := hide hn
  have HR := hide hrr
  clear hn hrr
  obtain ⟨x, hx⟩ : ∃ x, ixOf xs v = x := ⟨_, rfl⟩
  have hxr : r = decide (0 ≤ x) := by
    unfold ixOf at hx
    cases r
    · have hno : v ∉ xs := fun h => by have := HR.out.2 h; cases this
      rw [if_neg hno] at hx
      subst hx
      rfl
    · have h := HR.out.1 rfl
      rw [if_pos h] at hx
      subst hx
      simp
  have HX := hide hx
  have HXR := hide hxr
  clear hx hxr
  go_enter Try.func90, Try.ntmps90
  go_wp2_with fail
  refine (index_any _ _ _ xs v _ HN.out hb hr).mono ?_
  rintro e w1 ⟨rfl, hq⟩
  rw [HX.out]
  have HQ := hide hq
  clear hq
  go_wp2_with fail
  go_ret
  exact ⟨by rw [HXR.out]; rfl, HQ.out⟩
end Go.Proofs.Ytkflmhmbkilmpab
namespace Go.Proofs.Ytkflmhmbkilmpab
open Go Go.RowKit
set_option maxHeartbeats 2000000

theorem gsInfo : (Try.prog.info? 2).map (fun i => (i.zero, i.size, i.bytes)) = some (some (.int .i64 0), 1, 8) := by kernel_rfl
theorem gsInfo2 : (Try.prog.info? 33).map (fun i => (i.zero, i.size, i.bytes)) = some (some (.slice none 0 0), 1, 24) := by kernel_rfl
theorem gs_new {w : World} {v : Value} {t : TypeId} : ∀ j u, [v][j]? = some u → (w.alloc (.cells #[v] t)).cell? ((⟨w.heap.size, 0, none⟩ : Addr).add j) = some u := by
  intro j u hj
  match j, hj with
  | 0, hj => simp at hj; subst hj; simp [Addr.add, World.cell?_alloc_new]

/-- What the elements below x have brought. -/
def growTo (n f : Nat) (st : List Int) (x : Nat) : List (List Int) := (List.range x).flatMap fun (y : Nat) => if st.contains (Int.ofNat y) then [] else growS n f (st ++ [Int.ofNat y])
theorem growTo_succ (n f : Nat) (st : List Int) (x : Nat) : growTo n f st (x + 1) = growTo n f st x ++ (if st.contains (Int.ofNat x) then [] else growS n f (st ++ [Int.ofNat x])) := by
  unfold growTo
  rw [List.range_succ, List.flatMap_append]
  simp
theorem growTo_le (n f : Nat) (st : List Int) (x y : Nat) (h : x ≤ y) : (growTo n f st x).length ≤ (growTo n f st y).length := by
  induction y with
  | zero =>
    obtain rfl : x = 0 := by omega
    exact Nat.le_refl _
  | succ y ih =>
    by_cases e : x = y + 1
    · subst e; exact Nat.le_refl _
    · have := ih (by omega)
      rw [growTo_succ, List.length_append]
      omega

/-- What the call leaves: the list, grown. -/
def GrowPost (ts t : TypeId) (B : Nat) (rows : List (List Int)) (w : World) (e : Ending) (w' : World) : Prop :=
  ∃ v' vals', e = .returned v' ∧ KeepT t w w' ∧ Below B w w' ∧ B ≤ w'.heap.size ∧ LstV ts t B w' v' rows vals'

theorem grow_any (B : Nat) (f : Nat) : ∀ (n m c a : Nat) (st : List Int) (v : Value) (rows : List (List Int)) (vals : List Value) (w : World), st.length = m → m + f = n → n ≤ 12 → B ≤ w.heap.size →
    Obj1 2 B w.heap.size w (some ⟨a, 0, none⟩) st → LstV 33 2 B w v rows vals → (∀ (i : Nat) (u : Value) (g : Nat), vals[i]? = some u → u.ownBlock = some g → a ≠ g) → rows.length + (growS n f st).length ≤ 1048576 →
    Calls Try.prog 94 #[.int .i64 n, .slice (some ⟨a, 0, none⟩) m c, v] w (GrowPost 33 2 B (rows ++ growS n f st) w) := by
  induction f with
  | zero =>
    intro n m c a st v rows vals w hst hmn hn hB hobj hlst hdis hle
    obtain ⟨i0, hi, hz0, hz1, hz2⟩ := info_parts gsInfo2
    have hmn' : m = n := by omega
    subst hmn'
    have HST := hide hst
    have HO := hide hobj
    have HL := hide hlst
    have HD := hide hdis
    have hr : rows.length + 1 ≤ 1048576 := by simpa [growS] using hle
    have heq : ((m : Int) == (m : Int)) = true := by simp
    have hal : Below w.heap.size w (w.alloc (.cells #[.slice (some ⟨a, 0, none⟩) m c] 33)) := (Below.refl _ _).alloc (Nat.le_refl _) _
    have HAL := hide hal
    have hown := ownsRow_below HL.out.own hal
    have HOW := hide hown
    clear hst hobj hlst hdis hle hal hown hmn
    go_enter Try.func94, Try.ntmps94
    go_wp2_with (at_builtin; refine wpList_append_own _ rfl _ _ 22 rfl B 33 i0 (.slice none 0 0) 1 24 Try.underlying22 hi hz0 hz1 hz2 rfl (by decide) _ _ _ rfl HOW.out ⟨w.heap.size, 0, none⟩ 1 1 [.slice (some ⟨a, 0, none⟩) m c] rfl rfl ?c1 ?c2 ?c3 ?c4 ?c5 ?_)
    case c1 => exact gs_new
    case c2 => intro u hu; simp at hu; subst hu; rfl
    case c3 => unfold maxLen; omega
    case c4 => omega
    case c5 => simp; omega
    intro v' w1 hown' hgrow _
    have HO' := hide hown'
    have HG := hide hgrow
    clear hown' hgrow
    go_wp2_with fail
    go_ret
    have hB1 : Below B w w1 := (HAL.out.mono hB).grown HG.out (by simp; omega) (fun g hg => (HOW.out.lt g hg).1)
    have hk : KeepT 2 w w1 := (KeepT.of_below HAL.out).trans (KeepT.of_grown (by decide) HOW.out HG.out)
    have hpush := LstV.push2 (tmp := .cells #[.slice (some ⟨a, 0, none⟩) m c] 33) (A := some ⟨a, 0, none⟩) (c := c) (r := st) (w1 := w1) (v' := v') (by decide) HL.out HO.out (fun i u g hu hg b hb => by cases hb; exact HD.out i u g hu hg) (by rw [HST.out]; exact HO'.out) HG.out
    exact ⟨v', _, rfl, hk, hB1, Nat.le_trans hB hB1.size, hpush⟩
  | succ f ih =>
    intro n m c a st v rows vals w hst hmn hn hB hobj hlst hdis hle
    obtain ⟨i1, hi1, hy0, hy1, hy2⟩ := info_parts gsInfo
    have HST := hide hst
    have HO := hide hobj
    have HL := hide hlst
    have heq : ((m : Int) == (n : Int)) = false := by simp; omega
    have hleT : rows.length + (growTo n f st n).length ≤ 1048576 := hle
    have HLE := hide hleT
    have HIH := hide ih
    have hmn' : m < n := by omega
    have HMN := hide hmn
    clear hst hobj hlst hdis hle hleT ih hmn
    go_enter Try.func94, Try.ntmps94
    go_wp2_with fail
    go_loopw [2, 7] (fun v i wr => ∃ (x : Nat) (vals : List Value), x ≤ n ∧ i = .int .i64 x ∧ KeepT 2 w wr ∧ Below B w wr ∧ B ≤ wr.heap.size ∧ w.heap.size ≤ wr.heap.size ∧ LstV 33 2 B wr v (rows ++ growTo n f st x) vals) (fun _ i _ => n - (intOf i).toNat)
    case atStart => exact ⟨0, vals, Nat.zero_le _, rfl, KeepT.refl _ _, Below.refl _ _, hB, Nat.le_refl _, by simpa [growTo] using HL.out⟩
    case round =>
      obtain ⟨x, vals2, hx, rfl, hk, hbe, hBr, hsz, hlst⟩ := hrel
      have HK := hide hk
      have HBE := hide hbe
      have HL2 := hide hlst
      clear hk hbe hlst
      by_cases hlt : x < n
      · have hltz : (x : Int) < n := by omega
        have hst2 := HK.out.obj HO.out
        have HST2 := hide (hst2.mono (Nat.le_refl _) hsz)
        clear hst2
        by_cases hm : (x : Int) ∈ st
        · have HM := hide hm
          clear hm
          go_wp2_with fail
          refine (has_any _ _ _ st _ true _ HST.out (by omega) HST2.out.rd (by simp [HM.out])).mono ?_
          rintro e w2 ⟨rfl, hq2⟩
          have HQ2 := hide hq2
          clear hq2
          go_wp2_with fail
          go_roundw
          case rel =>
            obtain ⟨q, rfl⟩ := HQ2.out
            have e : growTo n f st (x + 1) = growTo n f st x := by
              rw [growTo_succ, if_pos (by rw [List.contains_iff_mem]; exact HM.out), List.append_nil]
            exact ⟨x + 1, vals2, by omega, by go_num, fun k cur h => HK.out k cur h, (HBE.out.trans ((Quiet.of wr q).below B)), hBr, hsz, by rw [e]; exact ⟨HL2.out.own, HL2.out.row, HL2.out.ne⟩⟩
          case measure => simp [intOf]; omega
        · have HM := hide hm
          clear hm
          go_wp2_with fail
          refine (has_any _ _ _ st _ false _ HST.out (by omega) HST2.out.rd (by simp [HM.out])).mono ?_
          rintro e w2 ⟨rfl, hq2⟩
          have HQ2 := hide hq2
          have HST3 := hide (HST2.out.later (hq2.below _))
          have HL3 := hide (HL2.out.later (hq2.below _))
          have hsz2 : wr.heap.size ≤ w2.heap.size := by rw [hq2.size]; exact Nat.le_refl _
          clear hq2
          have hrd := HST3.out.rd
          have hcells : ∀ i, i < st.length → w2.cell? ⟨a, 0 + i, none⟩ = some (.int .i64 (st.getD i 0)) := fun i hi => by
            obtain ⟨b, o, e, _, hc⟩ := hrd (by omega)
            cases e
            exact hc i hi
          have hab : a < w2.heap.size := Nat.lt_of_lt_of_le (HST3.out.bounds _ rfl).2 (by omega)
          have HC := hide hcells
          clear hrd hcells
          go_wp2_with fail
          refine (own_any a 0 m c st _ HST.out (by omega) hab HC.out).mono ?_
          rintro e w3 ⟨v3, rfl, hb3, ho3⟩
          have HB3 := hide hb3
          have HO3 := hide ho3
          have hs3 := hb3.size
          clear hb3 ho3
          go_wp2_with (at_builtin; refine wpList_append_own _ rfl _ _ 33 rfl w2.heap.size 2 i1 (.int .i64 0) 1 8 Try.underlying33 hi1 hy0 hy1 hy2 rfl (by decide) _ _ _ rfl (HO3.out.alloc _) ⟨w3.heap.size, 0, none⟩ 1 1 [.int .i64 (x : Int)] rfl rfl ?c1 ?c2 ?c3 ?c4 ?c5 ?_)
          case c1 => exact gs_new
          case c2 => intro u hu; simp at hu; subst hu; rfl
          case c3 => unfold maxLen; omega
          case c4 => omega
          case c5 => simp; omega
          intro v4 w4 hown' hgrow hnn
          have HO4 := hide hown'
          have HG4 := hide hgrow
          have e4 : ints st ++ [.int .i64 (x : Int)] = ints (st ++ [(x : Int)]) := by simp [ints]
          have hown2 := hown'
          rw [e4] at hown2
          have hB4 : Below w2.heap.size w2 w4 := (HB3.out.alloc (by omega) _).grown HG4.out (by simp; omega) (fun g hg => ((HO3.out.alloc (.cells #[.int .i64 (x : Int)] 2)).lt g hg).1)
          have HB4 := hide hB4
          have hs4 := hB4.size
          obtain ⟨A4, c4, hv4, hres4⟩ := own_shape hown2
          have hobj4 := hres4.obj
          rcases hobj4 with ⟨_, e⟩ | ⟨a4, e, ha4, ha5, hob4⟩
          · simp at e
          · subst e
            have HOB4 : Hid (Obj1 2 w2.heap.size w4.heap.size w4 (some ⟨a4, 0, none⟩) (st ++ [(x : Int)])) := hide (.inr ⟨a4, rfl, ha4, ha5, hob4⟩)
            have HL4 := hide (HL3.out.later HB4.out)
            have HK4 := hide ((KeepT.of_below (t := 2) HB4.out))
            rw [hv4]
            clear hown' hgrow hnn hown2 hB4 hres4 hob4 hv4 e4
            go_wp2_with fail
            have hls : (st ++ [(x : Int)]).length = m + 1 := by have := HST.out; simp; omega
            have hg1 := growTo_succ n f st x
            have hcon : st.contains (Int.ofNat x) = false := by
              have h := HM.out
              cases hc : st.contains (Int.ofNat x)
              · rfl
              · rw [List.contains_iff_mem] at hc
                exact absurd hc h
            rw [hcon] at hg1
            have hg2 := growTo_le n f st (x + 1) n (by omega)
            have hbound : (rows ++ growTo n f st x).length + (growS n f (st ++ [(x : Int)])).length ≤ 1048576 := by
              have h := HLE.out
              have e2 : (growTo n f st (x + 1)).length = (growTo n f st x).length + (growS n f (st ++ [(x : Int)])).length := by
                rw [hg1, List.length_append]
                rfl
              rw [List.length_append]
              omega
            refine (HIH.out n (m + 1) c4 a4 (st ++ [(x : Int)]) u2 (rows ++ growTo n f st x) vals2 w4 hls (by have := HMN.out; omega) hn (by omega) (HOB4.out.mono (by omega) (Nat.le_refl _)) HL4.out (fun i u g hu hg => by have := HL3.out.low i u g hu hg; omega) hbound).mono ?_
            rintro e w5 ⟨v5, vals5, rfl, hk5, hb5, hB5, hl5⟩
            have HK5 := hide hk5
            have HB5 := hide hb5
            have HL5 := hide hl5
            have HG1 := hide hg1
            have hkk : KeepT 2 wr w2 := KeepT.of_below (HQ2.out.below _)
            have HKK := hide hkk
            clear hk5 hb5 hl5 hg1 hg2 hbound hls hcon hkk
            go_wp2_with fail
            go_roundw
            case rel =>
              have e : rows ++ growTo n f st (x + 1) = (rows ++ growTo n f st x) ++ growS n f (st ++ [(x : Int)]) := by
                rw [HG1.out, List.append_assoc]
                rfl
              exact ⟨x + 1, vals5, by omega, by go_num, ((HK.out.trans HKK.out).trans HK4.out).trans HK5.out, ((HBE.out.trans (HQ2.out.below B)).trans (HB4.out.mono (by omega))).trans HB5.out, hB5, by have := HB5.out.size; omega, by rw [e]; exact HL5.out⟩
            case measure => simp [intOf]; omega
      · have hxn : x = n := by omega
        subst hxn
        go_wp2_with fail
        go_ret
        exact ⟨_, vals2, rfl, HK.out, HBE.out, hBr, HL2.out⟩
end Go.Proofs.Ytkflmhmbkilmpab
namespace Go.Proofs.Ytkflmhmbkilmpab
open Go Go.RowKit
set_option maxHeartbeats 400000

theorem in_any (x lo hi : Int) (r : Bool) (w : World) (hr : r = true ↔ lo ≤ x ∧ x ≤ hi) :
    Calls Try.prog 58 #[.int .i64 x, .int .i64 lo, .int .i64 hi] w fun e w' => e = .returned (.bool r) ∧ Quiet w w' := by
  have HR := hide hr
  clear hr
  by_cases h1 : lo ≤ x
  · by_cases h2 : x ≤ hi
    · have : r = true := HR.out.2 ⟨h1, h2⟩
      subst this
      go_enter Try.func58, Try.ntmps58
      go_wp2_with fail
      go_ret
      exact ⟨rfl, Quiet.refl _⟩
    · have : r = false := by
        cases r
        · rfl
        · exact absurd (HR.out.1 rfl).2 h2
      subst this
      have h2' : decide (x ≤ hi) = false := by simpa using h2
      clear h2
      go_enter Try.func58, Try.ntmps58
      go_wp2_with fail
      go_ret
      exact ⟨rfl, Quiet.refl _⟩
  · have : r = false := by
      cases r
      · rfl
      · exact absurd (HR.out.1 rfl).1 h1
    subst this
    have h1' : decide (lo ≤ x) = false := by simpa using h1
    clear h1
    go_enter Try.func58, Try.ntmps58
    go_wp2_with fail
    go_ret
    exact ⟨rfl, Quiet.refl _⟩
end Go.Proofs.Ytkflmhmbkilmpab
namespace Go.Proofs.Ytkflmhmbkilmpab
open Go Go.RowKit
set_option maxHeartbeats 2000000

theorem l01Perms_any (n : Nat) (w : World) (h1 : 1 ≤ n) (h7 : n ≤ 7) :
    Calls Try.prog 75 #[.int .i64 n] w fun e w' => ∃ A' c', e = .returned (.slice A' (permsS n).length c') ∧ Below w.heap.size w w' ∧ Obj2 33 2 w.heap.size w'.heap.size w' A' (permsS n) := by
  have HP := hide (perms_all n h1 h7)
  go_enter Try.func75, Try.ntmps75
  go_wp2_with fail
  have hal : Below w.heap.size w ((w.alloc (.cells #[] 2)).alloc (.cells #[] 33)) := ((Below.refl _ _).alloc (Nat.le_refl _) _).alloc (by simp) _
  have HAL := hide hal
  have hlst : LstV 33 2 w.heap.size ((w.alloc (.cells #[] 2)).alloc (.cells #[] 33)) (.slice (some ⟨w.heap.size + 1, 0, none⟩) 0 0) [] [] := by
    have h := LstV.start (w.alloc (.cells #[] 2)) 33 2
    obtain ⟨h1, h2, h3⟩ := h
    obtain ⟨h4, h5⟩ := h1
    refine ⟨⟨h4, ?_⟩, fun i hi => by simp at hi, fun i j u u' g _ hu => by simp at hu⟩
    rcases h5 with ⟨h5, _⟩ | ⟨g, cap, cur, hv, hg, r⟩
    · cases h5
    · exact .inr ⟨g, cap, cur, by simpa using hv, by simp at hg; omega, r⟩
  have HL := hide hlst
  have hob : Obj1 2 w.heap.size ((w.alloc (.cells #[] 2)).alloc (.cells #[] 33)).heap.size ((w.alloc (.cells #[] 2)).alloc (.cells #[] 33)) (some ⟨w.heap.size, 0, none⟩) [] :=
    .inr ⟨w.heap.size, rfl, Nat.le_refl _, by simp; omega, #[], (Below.heap_alloc _ _ _ (by simp)).trans (heap_alloc_new _ _), fun i hi => by simp at hi⟩
  have HO := hide hob
  clear hal hlst hob
  refine (grow_any w.heap.size n n 0 0 w.heap.size [] _ [] [] _ rfl (by omega) (by omega) (by simp; omega) HO.out HL.out (fun i u g hu => by simp at hu) (by have := HP.out.most; show 0 + (permsS n).length ≤ _; omega)).mono ?_
  rintro e w1 ⟨v', vals', rfl, hk, hb, hB, hl⟩
  have HL1 := hide hl
  have HB1 := hide hb
  clear hk hb hl
  go_wp2_with fail
  go_ret
  obtain ⟨A', c', hv, hobj⟩ := HL1.out.shape
  exact ⟨A', c', by rw [show [] ++ growS n n [] = permsS n from rfl] at hv; rw [← hv]; rfl, HAL.out.trans HB1.out, hobj⟩
end Go.Proofs.Ytkflmhmbkilmpab
namespace Go.Proofs.Ytkflmhmbkilmpab
open Go Go.RowKit
set_option maxHeartbeats 4000000
theorem lkInfo : (Try.prog.info? 22).map (fun i => (i.zero, i.size, i.bytes)) = some (some (.slice none 0 0), 1, 24) := by kernel_rfl

set_option maxRecDepth 100000 in
theorem lstK_any (ba ca : Nat) (A : Option Addr) (n c : Nat) (rows : List (List Int)) (w : World) (hn : rows.length = n) (ht : Tbl rows) (h7 : n ≤ 7) (hcell : w.cell? ⟨ba, 0, none⟩ = some (.slice A n c)) (hba : ba < w.heap.size) (hr : Rd2 w A rows) :
    Calls Try.prog 54 #[.slice (some ⟨ba, 0, none⟩) 1 ca, .bool false] w fun e w' => ∃ go co A' c', e = .returned (.slice (some ⟨go, 0, none⟩) 1 co) ∧ Below w.heap.size w w' ∧ w'.cell? ⟨go, 0, none⟩ = some (.slice A' n c') ∧ Obj2 33 2 w.heap.size w'.heap.size w' A' (bestS rows n (permsS n).length) := by
  have HN := hide hn
  have hrl : ∀ i, i < rows.length → (rows.getD i []).length = n := fun i hi => by rw [ht.rows i hi]; exact hn
  have hsh := fun q => bestS_shape rows n q hn (fun i hi => hrl i (by omega))
  have HSH := hide hsh
  have HRL := hide hrl
  have hin : ∀ i j, i < n → j < n → 0 ≤ (rows.getD i []).getD j 0 ∧ (rows.getD i []).getD j 0 < (n : Int) := fun i j hi hj => by have := (ht.2.2 i (by omega)).2 j (by omega); rw [hn] at this; exact this
  have HIN := hide hin
  have h1n : 1 ≤ n := by have := ht.1; omega
  have HPA := hide (perms_all n h1n h7)
  have HPI := hide (perms_isP n h1n h7)
  have HCV := hide (fun k hk => renL_cover rows n k (tabF rows) hn h1n h7 hk)
  obtain ⟨N, hN⟩ : ∃ N, (permsS n).length = N := ⟨_, rfl⟩
  have HNN := hide hN
  have hNb : N ≤ 5040 := by have := HPA.out.most; omega
  have hNp : 0 < N := by have := HPA.out.pos; omega
  rw [hN]
  have HCELL := hide hcell
  have HR := hide hr
  obtain ⟨i0, hi, hz0, hz1, hz2⟩ := info_parts lkInfo
  clear hn hrl hin ht hsh hN hcell hr
  go_enter Try.func54, Try.ntmps54
  have ha0 := HCELL.out
  go_wp2_with fail
  clear ha0
  refine (l01Perms_any n _ h1n h7).mono ?_
  rintro e w2 ⟨A2, c2, rfl, hb2, hobj2⟩
  rw [HNN.out]
  have HB2 := hide hb2
  have HA2 := hide hobj2.rd
  clear hb2 hobj2
  go_wp2_with fail
  go_loopw [6, 7] (fun v i wr => ∃ (q bb cb : Nat) (A' : Option Addr) (c' : Nat), q ≤ N ∧ i = .int .i64 q ∧ v = .slice (some ⟨bb, 0, none⟩) 1 cb ∧ Below w.heap.size w wr ∧ bb < wr.heap.size ∧ wr.cell? ⟨bb, 0, none⟩ = some (.slice A' n c') ∧ Rd2 wr A' (bestS rows n q) ∧ Rd2 wr A2 (permsS n)) (fun _ i _ => N - (intOf i).toNat)
  case atStart => exact ⟨0, _, _, _, _, Nat.zero_le _, rfl, rfl, HB2.out, Nat.lt_of_lt_of_le hba HB2.out.size, (HB2.out.cell (p := ⟨ba, 0, none⟩) hba).trans HCELL.out, HR.out.later HB2.out, HA2.out⟩
  case round =>
    obtain ⟨q, bb, cb, A', c', hq, rfl, rfl, hbe, hbb, hbc, hbr, hpr⟩ := hrel
    have HB := hide hbe
    have HBC := hide hbc
    have HBR := hide hbr
    have HPR := hide hpr
    clear hbe hbc hbr hpr
    by_cases hlt : q < N
    · have hltz : (q : Int) < N := by omega
      go_wp2_with fail
      obtain ⟨wo, rfl⟩ : ∃ wo : World, wo = wr := ⟨_, rfl⟩
      go_loopw [8, 9] (fun v i wi => Below wo.heap.size wo wi ∧ wo.heap.size < wi.heap.size ∧ ((i = .int .i64 (0 : Nat) ∧ v = .slice (some ⟨wo.heap.size, 0, none⟩) 0 0 ∧ wi.ownsRow wo.heap.size 22 1 (.slice (some ⟨wo.heap.size, 0, none⟩) 0 0) 0 []) ∨
        (i = .int .i64 (1 : Nat) ∧ ∃ bi ci A4 c4, v = .slice (some ⟨bi, 0, none⟩) 1 ci ∧ bi < wi.heap.size ∧ wi.cell? ⟨bi, 0, none⟩ = some (.slice A4 n c4) ∧ Rd2 wi A4 (renL rows ((permsS n).getD q []))))) (fun _ i _ => 1 - (intOf i).toNat)
      case atStart => exact ⟨(Below.refl _ _).alloc (Nat.le_refl _) _, by simp, .inl ⟨rfl, rfl, kq_empty wo _⟩⟩
      case round =>
        obtain ⟨hbi, hsi, hor⟩ := hrel
        have HBI := hide hbi
        clear hbi
        have hlow : w.heap.size ≤ wo.heap.size := HB.out.size
        rcases hor with ⟨rfl, rfl, hown⟩ | ⟨rfl, bi, ci, A4, c4, rfl, hbi2, hcell4, hrd4⟩
        · have HO := hide hown
          clear hown
          have hba2 : ba < wo.heap.size := by omega
          have HA00 := hide ((HB.out.cell (p := ⟨ba, 0, none⟩) hba).trans HCELL.out)
          have ha0 := (HBI.out.cell (p := ⟨ba, 0, none⟩) hba2).trans HA00.out
          obtain ⟨bp, op, hA2e, hbw, hc⟩ := HPR.out (by have := HNN.out; omega)
          subst hA2e
          obtain ⟨A1, c1, hcell1, hr1⟩ := hc q (by have := HNN.out; omega)
          have hl := HPA.out.len q (by have := HNN.out; omega)
          have hpi := HPI.out q (by have := HNN.out; omega)
          have hcv := HCV.out q (by have := HNN.out; omega)
          obtain ⟨p, hpe⟩ : ∃ p, (permsS n).getD q [] = p := ⟨_, rfl⟩
          rw [hpe] at hcell1 hr1 hl hpi hcv ⊢
          rw [hl] at hcell1
          have HC11 := hide hcell1
          replace hcell1 := (HBI.out.cell (p := ⟨bp, op + q, none⟩) hbw).trans HC11.out
          have HL := hide hl
          have HR1 := hide hr1
          have HPI2 := hide hpi.1
          have HC4 := hide hcv
          clear hpe hc hr1 hl hpi hcv
          go_wp2_with fail
          go_region_law (first | (go_simp; go_at_call 76; go_must (refine calls_gen fun wc hwc => ?_; (first | have hbx := drew_below hwc | have hbx := eq_below hwc); replace HBI := hide (HBI.out.trans (hbx.mono HBI.out.size)); replace HO := hide (ownsRow_below HO.out hbx); have hsc := hbx.size; clear hwc hbx; refine (imageS_any _ n _ rows _ _ p _ HN.out HL.out h1n (by omega) HRL.out HIN.out HPI2.out ((HR.out.later HB.out).later HBI.out) (HR1.out.later HBI.out)).mono ?_; rintro e w4 ⟨A4, c4, rfl, hb4, hob4⟩; have HB4 := hide (HBI.out.trans (hb4.mono HBI.out.size)); have hs4 := hb4.size; have HO4 : Hid (w4.ownsRow wo.heap.size 22 1 (.slice (some ⟨wo.heap.size, 0, none⟩) 0 0) 0 []) := hide (ownsRow_below HO.out hb4); have HOB4 := hide hob4; clear hb4 hob4; have ha0 := (HB4.out.cell (p := ⟨ba, 0, none⟩) hba2).trans HA00.out; have hcell1 := (HB4.out.cell (p := ⟨bp, op + q, none⟩) hbw).trans HC11.out)) | (refine step_append_lies _ (by rfl) _ _ _ (by rfl) wo.heap.size 22 i0 _ 1 24 Try.underlying57 hi hz0 hz1 hz2 rfl (by omega) (.slice (some ⟨wo.heap.size, 0, none⟩) 0 0) 0 [] (by rfl) (HO4.out.alloc _) ⟨w4.heap.size, 0, none⟩ 1 1 [.slice A4 n c4] (by rfl) (by rfl) kq_new (by simp [Value.oneCell']) (by omega) (by unfold maxLen; omega) (by omega) (by simp; omega) (w4.heap.size + 1) (by simp) ?_; intro gg cap w5 hown5 hgrow5 hat5 hlt5))
          all_goals
            obtain ⟨g5, cap5, hv5, hcell5, hlt6, hobj5, hb5⟩ := app_one (lo := wc.heap.size) (hi := w4.heap.size) (by omega) hown5 hgrow5 HOB4.out (by omega) (Nat.le_refl _)
            injection hv5 with e51 e52 e53
            injection e51 with e51
            injection e51 with e51
            subst e51
            have HB5 := hide (HB4.out.trans hb5)
            have HC5 := hide hcell5
            have HR5 : Hid (Rd2 w5 A4 (renL rows p)) := hide (by have h := hobj5.rd; rw [HC4.out] at h; exact h)
            have hs5 := hb5.size
            clear hown5 hgrow5 hcell5 hobj5 hb5 ha0 hcell1
            go_wp2_with fail
            go_roundw
            case rel => exact ⟨HB5.out, by omega, .inr ⟨by go_num, _, _, _, _, rfl, hlt6, HC5.out, HR5.out⟩⟩
            case measure => simp [intOf]
        · have HC4 := hide hcell4
          have HR4 := hide hrd4
          clear hcell4 hrd4
          have ha0 := (HBI.out.cell (p := ⟨ba, 0, none⟩) (show ba < wo.heap.size by omega)).trans ((HB.out.cell (p := ⟨ba, 0, none⟩) hba).trans HCELL.out)
          have HB4 := hide (HB.out.trans (HBI.out.mono HB.out.size))
          have HBC4 := hide ((HBI.out.cell (p := ⟨bb, 0, none⟩) hbb).trans HBC.out)
          have HBR4 := hide (HBR.out.later HBI.out)
          have HPR4 := hide (HPR.out.later HBI.out)
          have hbst : bestS rows n (q + 1) = if lessT (renL rows ((permsS n).getD q [])) (bestS rows n q) then renL rows ((permsS n).getD q []) else bestS rows n q := rfl
          obtain ⟨p, hpe⟩ : ∃ p, (permsS n).getD q [] = p := ⟨_, rfl⟩
          rw [hpe] at hbst HR4
          have HBS := hide hbst
          clear hpe hbst
          obtain ⟨bv, hbv⟩ : ∃ bv, lessT (renL rows p) (bestS rows n q) = bv := ⟨_, rfl⟩
          have HBV := hide hbv
          clear hbv
          go_wp2_with fail
          refine (befS_any bi ci bb cb _ _ n _ _ (renL rows p) (bestS rows n q) _ (by rw [renL_length]; exact HN.out) (HSH.out q).1 (by omega) (fun i hi => by rw [renL_length] at hi; unfold renL; rw [grid_row_length _ _ _ hi]; exact HN.out) (fun i hi => (HSH.out q).2 i (by have := (HSH.out q).1; omega)) HC4.out HBC4.out HR4.out HBR4.out).mono ?_
          rintro e w5 ⟨rfl, hq5⟩
          rw [HBV.out]
          have S5 := (hq5.below 0).size
          have HB5 := hide (HB4.out.trans (hq5.below _))
          have HC5 := hide ((hq5.cell ⟨bi, 0, none⟩).trans HC4.out)
          have HBC5 := hide ((hq5.cell ⟨bb, 0, none⟩).trans HBC4.out)
          have HR5 := hide (hq5.rd2 HR4.out)
          have HBR5 := hide (hq5.rd2 HBR4.out)
          have HPR5 := hide (hq5.rd2 HPR4.out)
          clear hq5 ha0
          have hbb5 : bb < w5.heap.size := by omega
          have hbi5 : bi < w5.heap.size := by omega
          cases bv
          · go_wp2_with fail
            go_roundw
            case rel =>
              refine ⟨q + 1, bb, cb, A', c', by omega, by go_num, rfl, HB5.out, hbb5, HBC5.out, ?_, HPR5.out⟩
              rw [HBS.out, HBV.out]
              exact HBR5.out
            case measure => simp [intOf]; omega
          · go_wp2_with fail
            go_roundw
            case rel =>
              refine ⟨q + 1, bi, ci, A4, c4, by omega, by go_num, rfl, HB5.out, hbi5, HC5.out, ?_, HPR5.out⟩
              rw [HBS.out, HBV.out]
              exact HR5.out
            case measure => simp [intOf]; omega
    · have hqN : q = N := by omega
      subst hqN
      go_wp2_with fail
      obtain ⟨wo, rfl⟩ : ∃ wo : World, wo = wr := ⟨_, rfl⟩
      go_loopw [10, 11] (fun v i wi => Below wo.heap.size wo wi ∧ wo.heap.size < wi.heap.size ∧ ((i = .int .i64 (0 : Nat) ∧ v = .slice (some ⟨wo.heap.size, 0, none⟩) 0 0 ∧ wi.ownsRow wo.heap.size 22 1 (.slice (some ⟨wo.heap.size, 0, none⟩) 0 0) 0 []) ∨
        (i = .int .i64 (1 : Nat) ∧ ∃ bi ci A4 c4, v = .slice (some ⟨bi, 0, none⟩) 1 ci ∧ wi.cell? ⟨bi, 0, none⟩ = some (.slice A4 n c4) ∧ Obj2 33 2 w.heap.size wi.heap.size wi A4 (bestS rows n q)))) (fun _ i _ => 1 - (intOf i).toNat)
      case atStart => exact ⟨(Below.refl _ _).alloc (Nat.le_refl _) _, by simp, .inl ⟨rfl, rfl, kq_empty wo _⟩⟩
      case round =>
        obtain ⟨hbi, hsi, hor⟩ := hrel
        have HBI := hide hbi
        clear hbi
        have hlow : w.heap.size ≤ wo.heap.size := HB.out.size
        rcases hor with ⟨rfl, rfl, hown⟩ | ⟨rfl, bi, ci, A4, c4, rfl, hcell4, hobj4⟩
        · have HO := hide hown
          clear hown
          have ha0 := (HBI.out.cell (p := ⟨bb, 0, none⟩) hbb).trans HBC.out
          go_wp2_with fail
          refine (ownk_any _ n _ (bestS rows n q) _ (HSH.out q).1 h1n (by omega) (fun i hi => (HSH.out q).2 i (by have := (HSH.out q).1; omega)) (HBR.out.later HBI.out)).mono ?_
          rintro e w4 ⟨A4, c4, rfl, hb4, hob4⟩
          have HB4 := hide (HBI.out.trans (hb4.mono HBI.out.size))
          have hs4 := hb4.size
          have HO4 : Hid (w4.ownsRow wo.heap.size 22 1 (.slice (some ⟨wo.heap.size, 0, none⟩) 0 0) 0 []) := hide (ownsRow_below HO.out hb4)
          have HOB4 := hide hob4
          clear hb4 hob4 ha0
          go_wp2_with (at_builtin; refine wpList_append_own _ rfl _ _ 57 rfl wo.heap.size 22 i0 (.slice none 0 0) 1 24 Try.underlying57 hi hz0 hz1 hz2 rfl (by decide) _ _ _ rfl (HO4.out.alloc _) ⟨w4.heap.size, 0, none⟩ 1 1 [.slice A4 n c4] rfl rfl ?c1 ?c2 ?c3 ?c4 ?c5 ?_)
          case c1 => exact kq_new
          case c2 => intro u hu; simp at hu; subst hu; rfl
          case c3 => unfold maxLen; omega
          case c4 => omega
          case c5 => simp; omega
          intro v' w5 hown' hgrow _
          obtain ⟨g5, cap5, hv5, hcell5, hlt5, hobj5, hb5⟩ := app_one (lo := wr.heap.size) (hi := w4.heap.size) (by omega) hown' hgrow HOB4.out (by omega) (Nat.le_refl _)
          subst hv5
          have HB5 := hide (HB4.out.trans hb5)
          have HC5 := hide hcell5
          have hs5 := hb5.size
          have HR5 := hide (hobj5.mono (lo' := w.heap.size) (hi' := w5.heap.size) (by omega) hs5)
          clear hown' hgrow hcell5 hobj5 hb5
          go_wp2_with fail
          go_roundw
          case rel => exact ⟨HB5.out, by omega, .inr ⟨by go_num, _, _, _, _, rfl, HC5.out, HR5.out⟩⟩
          case measure => simp [intOf]
        · have HC4 := hide hcell4
          have HO4 := hide hobj4
          have HB4 := hide (HB.out.trans (HBI.out.mono HB.out.size))
          clear hcell4 hobj4
          go_wp2_with fail
          go_ret
          exact ⟨_, _, _, _, rfl, HB4.out, HC4.out, HO4.out⟩
end Go.Proofs.Ytkflmhmbkilmpab
namespace Go.Proofs.Ytkflmhmbkilmpab
open Go Go.RowKit
set_option maxHeartbeats 2000000

set_option maxRecDepth 100000 in
theorem faultK_any (A : Option Addr) (n c : Nat) (f : List (List Int)) (T : Nat) (w : World) (hn : f.length = n) (ht : Tbl f) (hr : Rd2 w A f) (hT : FirstK f n T) :
    Calls Try.prog 69 #[.slice A n c] w fun e w' => (T = n * n * n ∧ e = .returned (.slice none 0 0) ∧ Below w.heap.size w w') ∨ (T < n * n * n ∧ ∃ g, e = .returned (.slice (some ⟨g, 0, none⟩) 3 3) ∧ Below w.heap.size w w' ∧ w.heap.size ≤ g ∧ OwnB 2 w' g (lst3 (trip n T))) := by
  have h1 : 1 ≤ n := by rw [← hn]; exact ht.1
  have h12 : n ≤ 12 := by rw [← hn]; exact ht.2.1
  obtain ⟨b, o, rfl, hb, hc⟩ := ht.cells hr hn
  have HC := hide hc
  have HN := hide hn
  have HTB := hide ht
  have HT := hide hT
  clear hn ht hr hT hc
  go_enter Try.func69, Try.ntmps69
  go_wp2_with fail
  go_loopw [4] (fun i wr => ∃ x : Nat, x ≤ n ∧ i = .int .i64 x ∧ Quiet w wr ∧ ∀ i, i < x * n * n → Rk3 f n i) (fun i _ => n - (intOf i).toNat)
  case atStart => exact ⟨0, Nat.zero_le _, rfl, Quiet.refl _, fun i hi => absurd hi (by omega)⟩
  case round =>
    obtain ⟨x, hx, rfl, hq, hall⟩ := hrel
    have HQ := hide hq
    clear hq
    have HALL := hide hall
    clear hall
    by_cases hlt : x < n
    · have hxz : (x : Int) < n := by omega
      go_wp2_with fail
      go_loopw [5] (fun i wi => ∃ y : Nat, y ≤ n ∧ i = .int .i64 y ∧ Quiet w wi ∧ ∀ i, i < (x * n + y) * n → Rk3 f n i) (fun i _ => n - (intOf i).toNat)
      case atStart => exact ⟨0, Nat.zero_le _, rfl, HQ.out, fun i hi => HALL.out i (by rw [Nat.add_zero] at hi; exact hi)⟩
      case round =>
        obtain ⟨y, hy, rfl, hq, halli⟩ := hrel
        have HQI := hide hq
        clear hq
        have HALLI := hide halli
        clear halli
        by_cases hlty : y < n
        · have hyz : (y : Int) < n := by omega
          go_wp2_with fail
          go_loopw [6] (fun i wi => ∃ z : Nat, z ≤ n ∧ i = .int .i64 z ∧ Quiet w wi ∧ ∀ i, i < (x * n + y) * n + z → Rk3 f n i) (fun i _ => n - (intOf i).toNat)
          case atStart => exact ⟨0, Nat.zero_le _, rfl, HQI.out, HALLI.out⟩
          case round =>
            obtain ⟨z, hzn, rfl, hq, hallj⟩ := hrel
            have HQJ := hide hq
            clear hq
            have HALLJ := hide hallj
            clear hallj
            by_cases hltz : z < n
            · have hzz : (z : Int) < n := by omega
              have hq1 := HTB.out.ap_lt HN.out hlty hltz
              have hq2 := HTB.out.ap_lt HN.out hlt hlty
              have hq3 := HTB.out.ap_lt HN.out hlt hltz
              have hat := Rk3.at (f := f) (n := n) (x := x) hlty hltz
              have HTR := hide (trip_of (n := n) (x := x) hlty hltz)
              have HKL := hide (trip_lt (n := n) hlt hlty hltz)
              obtain ⟨q1, h_1⟩ : ∃ u, ap f y z = u := ⟨_, rfl⟩
              obtain ⟨q2, h_2⟩ : ∃ u, ap f x y = u := ⟨_, rfl⟩
              obtain ⟨q3, h_3⟩ : ∃ u, ap f x z = u := ⟨_, rfl⟩
              rw [h_1, h_2, h_3] at hat
              rw [h_1] at hq1
              rw [h_2] at hq2
              rw [h_3] at hq3
              obtain ⟨q4, h_4⟩ : ∃ u, ap f x q1 = u := ⟨_, rfl⟩
              obtain ⟨q5, h_5⟩ : ∃ u, ap f q2 q3 = u := ⟨_, rfl⟩
              rw [h_4, h_5] at hat
              have HAT := hide hat
              obtain ⟨bx, ox, cx, r1, r2, r3⟩ := HC.out x hlt
              obtain ⟨by', oy, cy, s1, s2, s3⟩ := HC.out y hlty
              obtain ⟨bq, oq, cq, t1, t2, t3⟩ := HC.out q2 hq2
              have e1 := s3 z hltz
              rw [h_1] at e1
              have e2 := r3 y hlty
              rw [h_2] at e2
              have e3 := r3 z hltz
              rw [h_3] at e3
              have e4 := r3 q1 hq1
              rw [h_4] at e4
              have e5 := t3 q3 hq3
              rw [h_5] at e5
              have z1 : (q1 : Int) < n := by omega
              have z2 : (q2 : Int) < n := by omega
              have z3 : (q3 : Int) < n := by omega
              have hbl := HQJ.out.below w.heap.size
              replace r1 := (hbl.cell (p := ⟨b, o + x, none⟩) hb).trans r1
              replace s1 := (hbl.cell (p := ⟨b, o + y, none⟩) hb).trans s1
              replace t1 := (hbl.cell (p := ⟨b, o + q2, none⟩) hb).trans t1
              replace e1 := (hbl.cell (p := ⟨by', oy + z, none⟩) s2).trans e1
              replace e2 := (hbl.cell (p := ⟨bx, ox + y, none⟩) r2).trans e2
              replace e3 := (hbl.cell (p := ⟨bx, ox + z, none⟩) r2).trans e3
              replace e4 := (hbl.cell (p := ⟨bx, ox + q1, none⟩) r2).trans e4
              replace e5 := (hbl.cell (p := ⟨bq, oq + q3, none⟩) t2).trans e5
              clear hbl h_1 h_2 h_3 h_4 h_5 hat r3 s3 t3
              by_cases hcs : q4 = q5
              · have HGOOD := hide (HAT.out.2 hcs)
                subst hcs
                go_wp2_with fail
                go_quiet (fail)
                go_wp2_with fail
                go_roundw
                case rel => exact ⟨z + 1, by omega, by go_num, HQJ.out.drewN _, fun i hi => by
                  by_cases e : i = (x * n + y) * n + z
                  · rw [e]; exact HGOOD.out
                  · exact HALLJ.out i (by omega)⟩
                case measure => simp [intOf]; omega
              · have hbad : ¬ Rk3 f n ((x * n + y) * n + z) := fun h => hcs (HAT.out.1 h)
                have HTB2 := hide (HT.out.bad HALLJ.out HKL.out hbad)
                have hcz : ¬ (q4 : Int) = q5 := by omega
                clear hbad
                go_wp2_with fail
                go_quiet (fail)
                go_wp2_with fail
                refine bp_gen fun wf hwf => ?_
                have HBF : Below w.heap.size w wf := by rw [hwf]; exact ((HQJ.out.drewN nq).below _).alloc ((HQJ.out.drewN nq).below 0).size _
                have HLF : Hid (Blk wf (wr.drewN nq).heap.size 2 [.int .i64 x, .int .i64 y, .int .i64 z]) := hide (by rw [hwf]; exact Blk.new _ _ _)
                have hlo : w.heap.size ≤ (wr.drewN nq).heap.size := ((HQJ.out.drewN nq).below 0).size
                clear hwf
                go_ret
                exact .inr ⟨by rw [HTB2.out]; exact HKL.out, _, rfl, HBF, hlo, _, HLF.out, fun i hi => by
                  rw [HTB2.out, HTR.out] at hi ⊢
                  simp [lst3] at hi
                  rcases i with _ | _ | _ | i
                  · rfl
                  · rfl
                  · rfl
                  · omega⟩
            · have hzn' : z = n := by omega
              subst hzn'
              go_wp2_with fail
              go_roundw
              case rel => exact ⟨y + 1, by omega, by go_num, HQJ.out, fun i hi => HALLJ.out i (by rw [← Nat.add_assoc, Nat.add_mul _ 1, Nat.one_mul] at hi; exact hi)⟩
              case measure => simp [intOf]; omega
        · have hyn' : y = n := by omega
          subst hyn'
          go_wp2_with fail
          go_roundw
          case rel => exact ⟨x + 1, by omega, by go_num, HQI.out, fun i hi => HALLI.out i (by rw [Nat.add_mul x 1, Nat.one_mul] at hi; exact hi)⟩
          case measure => simp [intOf]; omega
    · have hxn : x = n := by omega
      subst hxn
      go_wp2_with fail
      go_ret
      exact .inl ⟨HT.out.all HALL.out, rfl, HQ.out.below _⟩
end Go.Proofs.Ytkflmhmbkilmpab
namespace Go.Proofs.Ytkflmhmbkilmpab
open Go Go.RowKit
set_option maxHeartbeats 400000

theorem l01Table_any (A : Option Addr) (n c : Nat) (rows : List (List Int)) (r : Bool) (w : World) (hn : rows.length = n) (hb : n ≤ 9223372036854775807) (hbs : ∀ i, i < rows.length → (rows.getD i []).length ≤ 9223372036854775807) (hr : Rd2 w A rows) (hrr : r = true ↔ Tbl rows) :
    Calls Try.prog 68 #[.slice A n c] w fun e w' => e = .returned (.bool r) ∧ Quiet w w' := by
  have HN := hide hn
  have HR := hide hrr
  clear hn hrr
  by_cases h12 : 1 ≤ n ∧ n ≤ 12
  · obtain ⟨h1, h2⟩ := h12
    have hno : ¬ Tbl rows → r = false := fun h => by
      cases r
      · rfl
      · exact absurd (HR.out.1 rfl) h
    have HNO := hide hno
    clear hno
    go_enter Try.func68, Try.ntmps68
    go_wp2_with (go_at_call 58; refine (in_any _ _ _ true _ (by simp; omega)).mono ?_; rintro e w1 ⟨rfl, hq1⟩)
    have HQ1 := hide hq1
    clear hq1
    go_loopw [4] (fun i wr => ∃ k : Nat, k ≤ n ∧ i = .int .i64 k ∧ Quiet w wr ∧ ∀ i, i < k → RowOk n (rows.getD i [])) (fun i _ => n - (intOf i).toNat)
    case atStart => exact ⟨0, Nat.zero_le _, rfl, HQ1.out, fun i hi => absurd hi (Nat.not_lt_zero _)⟩
    case round =>
      obtain ⟨k, hk, rfl, hq, hall⟩ := hrel
      have HQ := hide hq
      have HALL := hide hall
      clear hq hall
      by_cases hlt : k < n
      · obtain ⟨b, o, rfl, _, hc⟩ := HQ.out.rd2 hr (by have := HN.out; omega)
        obtain ⟨Ak, ck, hcell, hrd⟩ := hc k (by have := HN.out; omega)
        have hbk := hbs k (by have := HN.out; omega)
        obtain ⟨x, hx⟩ : ∃ x, x = rows.getD k [] := ⟨_, rfl⟩
        obtain ⟨m, hm⟩ : ∃ m, x.length = m := ⟨_, rfl⟩
        rw [← hx] at hcell hrd hbk
        rw [hm] at hcell hbk
        have HX := hide hx
        have HM := hide hm
        clear hx hm hc hbs
        have hltz : (k : Int) < n := by omega
        by_cases hmn : m = n
        · subst hmn
          go_wp2_with fail
          obtain ⟨wo, rfl⟩ : ∃ wo : World, wo = wr := ⟨_, rfl⟩
          go_loopw [5] (fun i wi => ∃ j : Nat, j ≤ m ∧ i = .int .i64 j ∧ Quiet wo wi ∧ ∀ i, i < j → 0 ≤ x.getD i 0 ∧ x.getD i 0 < (m : Int)) (fun i _ => m - (intOf i).toNat)
          case atStart => exact ⟨0, Nat.zero_le _, rfl, Quiet.refl _, fun i hi => absurd hi (Nat.not_lt_zero _)⟩
          case round =>
            obtain ⟨j, hj, rfl, hqi, hin⟩ := hrel
            have HIN := hide hin
            have HQI := hide hqi
            clear hin
            by_cases hjm : j < m
            · obtain ⟨b2, o2, rfl, _, hc2⟩ := hqi.rd hrd (by have := HM.out; omega)
              have hcell2 := (hqi.cell ⟨b, o + k, none⟩).trans hcell
              have hv := hc2 j (by have := HM.out; omega)
              obtain ⟨y, hy⟩ : ∃ y, y = x.getD j 0 := ⟨_, rfl⟩
              rw [← hy] at hv
              have HY := hide hy
              clear hy hc2 hqi hcell
              have hjz : (j : Int) < m := by omega
              by_cases hyr : 0 ≤ y ∧ y ≤ (m : Int) - 1
              · have HYR := hide hyr
                clear hyr
                go_wp2_with (go_at_call 58; refine (in_any _ _ _ true _ (by simp [HYR.out.1, HYR.out.2])).mono ?_; rintro e w1 ⟨rfl, hq1⟩)
                go_roundw
                case rel =>
                  refine ⟨j + 1, by omega, by go_num, HQI.out.trans hq1, fun i hi => ?_⟩
                  by_cases e : i = j
                  · subst e; rw [← HY.out]; have := HYR.out; exact ⟨this.1, by omega⟩
                  · exact HIN.out i (by omega)
                case measure => simp [intOf]; omega
              · have HYR := hide hyr
                clear hyr
                go_wp2_with (go_at_call 58; refine (in_any _ _ _ false _ (by simpa using HYR.out)).mono ?_; rintro e w1 ⟨rfl, hq1⟩)
                go_ret
                have : r = false := HNO.out fun h => HYR.out (by
                  have h := (h.2.2 k (by have := HN.out; omega)).2 j (by have := HN.out; omega)
                  rw [← HX.out, ← HY.out, HN.out] at h
                  exact ⟨h.1, by omega⟩)
                exact ⟨by subst this; rfl, HQ.out.trans (HQI.out.trans hq1)⟩
            · have hjm' : j = m := by omega
              subst hjm'
              go_wp2_with fail
              go_roundw
              case rel => 
                refine ⟨k + 1, by omega, by go_num, HQ.out.trans HQI.out, fun i hi => ?_⟩
                by_cases e : i = k
                · subst e; rw [← HX.out]; exact ⟨HM.out, HIN.out⟩
                · exact HALL.out i (by omega)
              case measure => simp [intOf]; omega
        · have hne : ((m : Int) != (n : Int)) = true := by simp; omega
          have HMN := hide hmn
          clear hmn
          go_wp2_with fail
          go_ret
          have : r = false := HNO.out fun h => HMN.out (by
            have h := (h.2.2 k (by have := HN.out; omega)).1
            rw [← HX.out, HM.out, HN.out] at h
            exact h)
          exact ⟨by subst this; rfl, by first | exact HQ.out | exact HQ.out.drewN _⟩
      · have hkn : k = n := by omega
        subst hkn
        go_wp2_with fail
        go_ret
        have : r = true := HR.out.2 ⟨by have := HN.out; omega, by have := HN.out; omega, fun i hi => by
          have h := HALL.out i (by have := HN.out; omega)
          rw [HN.out]
          exact h⟩
        exact ⟨by subst this; rfl, HQ.out⟩
  · have : r = false := by
      cases r
      · rfl
      · have := HR.out.1 rfl
        have h := HN.out
        unfold Tbl at this
        omega
    subst this
    go_enter Try.func68, Try.ntmps68
    go_wp2_with (go_at_call 58; refine (in_any _ _ _ false _ (by simp; omega)).mono ?_; rintro e w1 ⟨rfl, hq1⟩)
    go_ret
    exact ⟨rfl, hq1⟩

end Go.Proofs.Ytkflmhmbkilmpab
namespace Go.Proofs.Ytkflmhmbkilmpab
open Go Go.RowKit
set_option maxHeartbeats 400000

theorem l01Perm_any (A : Option Addr) (n c : Nat) (xs : List Int) (r : Bool) (w : World) (hn : xs.length = n) (hb : n ≤ 9223372036854775807) (hr : Rd w A xs) (hrr : r = true ↔ 1 ≤ n ∧ n ≤ 12 ∧ ∀ x : Int, 0 ≤ x → x < (n : Int) → x ∈ xs) :
    Calls Try.prog 62 #[.slice A n c] w fun e w' => e = .returned (.bool r) ∧ Quiet w w' := by
  have HN := hide hn
  have HR := hide hrr
  clear hn hrr
  by_cases h12 : 1 ≤ n ∧ n ≤ 12
  · obtain ⟨h1, h2⟩ := h12
    go_enter Try.func62, Try.ntmps62
    go_wp2_with (go_at_call 58; refine (in_any _ _ _ true _ (by simp; omega)).mono ?_; rintro e w1 ⟨rfl, hq1⟩)
    have HQ1 := hide hq1
    clear hq1
    go_loopw [4] (fun i wr => ∃ k : Nat, k ≤ n ∧ i = .int .i64 k ∧ Quiet w wr ∧ ∀ x : Int, 0 ≤ x → x < (k : Int) → x ∈ xs) (fun i _ => n - (intOf i).toNat)
    case atStart => exact ⟨0, Nat.zero_le _, rfl, HQ1.out, fun x h0 h1 => by omega⟩
    case round =>
      obtain ⟨k, hk, rfl, hq, hall⟩ := hrel
      have HQ := hide hq
      have HALL := hide hall
      clear hq hall
      by_cases hlt : k < n
      · have hltz : (k : Int) < n := by omega
        by_cases hm : (k : Int) ∈ xs
        · have HM := hide hm
          clear hm
          go_wp2_with (go_at_call 90; refine (has_any _ _ _ xs _ true _ HN.out hb (HQ.out.rd hr) (by simp [HM.out])).mono ?_; rintro e w2 ⟨rfl, hq2⟩)
          have HQ2 := hide hq2
          clear hq2
          go_roundw
          case rel =>
            refine ⟨k + 1, by omega, by go_num, HQ.out.trans HQ2.out, fun x h0 h1 => ?_⟩
            by_cases e : x = (k : Int)
            · subst e; exact HM.out
            · exact HALL.out x h0 (by omega)
          case measure => simp [intOf]; omega
        · have HM := hide hm
          clear hm
          go_wp2_with (go_at_call 90; refine (has_any _ _ _ xs _ false _ HN.out hb (HQ.out.rd hr) (by simp [HM.out])).mono ?_; rintro e w2 ⟨rfl, hq2⟩)
          go_ret
          have : r = false := by
            cases r
            · rfl
            · exact absurd ((HR.out.1 rfl).2.2 k (by omega) (by omega)) HM.out
          exact ⟨by subst this; rfl, HQ.out.trans hq2⟩
      · have hkn : k = n := by omega
        subst hkn
        go_wp2_with fail
        go_ret
        have : r = true := HR.out.2 ⟨h1, h2, HALL.out⟩
        exact ⟨by subst this; rfl, HQ.out⟩
  · have : r = false := by
      cases r
      · rfl
      · have := HR.out.1 rfl
        omega
    subst this
    go_enter Try.func62, Try.ntmps62
    go_wp2_with (go_at_call 58; refine (in_any _ _ _ false _ (by simp; omega)).mono ?_; rintro e w1 ⟨rfl, hq1⟩)
    go_ret
    exact ⟨rfl, hq1⟩

theorem prmS_any (A : Option Addr) (n c : Nat) (xs : List Int) (r : Bool) (w : World) (hn : xs.length = n) (hb : n ≤ 9223372036854775807) (hr : Rd w A xs) (hrr : r = true ↔ Prm xs) :
    Calls Try.prog 62 #[.slice A n c] w fun e w' => e = .returned (.bool r) ∧ Quiet w w' :=
  l01Perm_any A n c xs r w hn hb hr (by rw [hrr, prm_iff, hn])
theorem prmS_below (A : Option Addr) (n c : Nat) (xs : List Int) (r : Bool) (w : World) (hn : xs.length = n) (hb : n ≤ 9223372036854775807) (hr : Rd w A xs) (hrr : r = true ↔ Prm xs) :
    Calls Try.prog 62 #[.slice A n c] w fun e w' => e = .returned (.bool r) ∧ Below w.heap.size w w' :=
  (prmS_any A n c xs r w hn hb hr hrr).mono fun _ _ ⟨he, hq⟩ => ⟨he, hq.below _⟩
end Go.Proofs.Ytkflmhmbkilmpab
namespace Go.Proofs.Ytkflmhmbkilmpab
open Go Go.RowKit
set_option maxHeartbeats 2000000

set_option maxRecDepth 100000 in
theorem isRackS (A : Option Addr) (n c : Nat) (f : List (List Int)) (r : Bool) (w : World) (hn : f.length = n) (hb : n ≤ 1048576) (hbs : ∀ i, i < f.length → (f.getD i []).length ≤ 1048576) (hr : Rd2 w A f) (hres : RkRes f r) :
    Calls Try.prog 40 #[.agg #[.slice A n c]] w fun e w' => e = .returned (.bool r) ∧ Below w.heap.size w w' := by
  have HN := hide hn
  have HBS := hide hbs
  have HRD := hide hr
  have HR := hide hres
  have HB0 := hide ((Below.refl _ w).alloc (Nat.le_refl _) (Obj.cells #[Value.slice A n c] 26))
  have HK0 := hide (Blk.new w 26 [.slice A n c])
  by_cases ht : Tbl f
  · have HTB := hide ht
    obtain ⟨T, hT⟩ := FirstK.ex f n
    have HT := hide hT
    clear hn hbs hr hres ht hT
    go_enter Try.func40, Try.ntmps40
    go_wp2_with fail
    refine (l01Table_any _ _ _ f true _ HN.out (by omega) (fun i hi => by have := HBS.out i hi; omega) (HRD.out.later HB0.out) (by simp [HTB.out])).mono ?_
    rintro e w1 ⟨rfl, hq1⟩
    have HB1 := hide (HB0.out.trans (hq1.below _))
    have HK1 := hide (HK0.out.later (hq1.below _))
    clear hq1
    go_wp2_with fail
    go_loopw [3] (fun i wr => ∃ k : Nat, k ≤ n ∧ i = .int .i64 k ∧ Below w.heap.size w wr ∧ Blk wr w.heap.size 26 [.slice A n c] ∧ ∀ i, i < k → Prm (f.getD i [])) (fun i _ => n - (intOf i).toNat)
    case atStart => exact ⟨0, Nat.zero_le _, rfl, HB1.out, HK1.out, fun i hi => absurd hi (Nat.not_lt_zero _)⟩
    case round =>
      obtain ⟨k, hk, rfl, hbe, hkk, hall⟩ := hrel
      have HB := hide hbe
      have HK := hide hkk
      have HALL := hide hall
      clear hbe hkk hall
      have k0 := HK.out.cell 0 _ rfl
      by_cases hlt : k < n
      · obtain ⟨b, o, hA, _, hc⟩ := (HRD.out.later HB.out) (by have := HN.out; omega)
        obtain ⟨Ak, ck, hcell, hrd⟩ := hc k (by have := HN.out; omega)
        have hbk := HBS.out k (by have := HN.out; omega)
        obtain ⟨x, hx⟩ : ∃ x, x = f.getD k [] := ⟨_, rfl⟩
        obtain ⟨m, hm⟩ : ∃ m, x.length = m := ⟨_, rfl⟩
        rw [← hx] at hcell hrd hbk
        rw [hm] at hcell hbk
        have HX := hide hx
        have HM := hide hm
        have hltz : (k : Int) < n := by omega
        clear hx hm hc
        subst hA
        by_cases hp : Prm x
        · have HP := hide hp
          clear hp
          go_wp2_with fail
          clear k0
          refine (prmS_below _ _ _ x true _ HM.out (by omega) hrd (by simp [HP.out])).mono ?_
          rintro e w2 ⟨rfl, hq1⟩
          have HQ1 := hide hq1
          clear hq1
          go_wp2_with fail
          go_roundw
          case rel =>
            refine ⟨k + 1, by omega, by go_num, HB.out.trans (HQ1.out.mono HB.out.size), HK.out.later HQ1.out, fun i hi => ?_⟩
            by_cases e : i = k
            · subst e; rw [← HX.out]; exact HP.out
            · exact HALL.out i (by omega)
          case measure => simp [intOf]; omega
        · have HP := hide hp
          clear hp
          go_wp2_with fail
          clear k0
          refine (prmS_below _ _ _ x false _ HM.out (by omega) hrd (by simp [HP.out])).mono ?_
          rintro e w2 ⟨rfl, hq1⟩
          have HQ1 := hide hq1
          clear hq1
          have hnp : ¬ AllPrm f := fun h => by
            have h := h k (by have := HN.out; omega)
            rw [← HX.out] at h
            exact HP.out h
          have hrf : r = false := by
            cases r
            · rfl
            · have hrr : true = true ↔ Rck f := HR.out
              exact absurd (hrr.1 rfl).prm hnp
          subst hrf
          clear hnp
          go_wp2_with fail
          go_ret
          exact ⟨rfl, HB.out.trans (HQ1.out.mono HB.out.size)⟩
      · have hkn : k = n := by omega
        subst hkn
        have HAP : Hid (AllPrm f) := hide (fun i hi => HALL.out i (by have := HN.out; omega))
        go_wp2_with fail
        clear k0
        refine (faultK_any _ _ _ f T _ HN.out HTB.out (HRD.out.later HB.out) HT.out).mono ?_
        rintro e w3 (⟨hTe, rfl, hb3⟩ | ⟨hTl, g, rfl, hb3, hg, hob⟩)
        · have hrt : r = true := by
            have hrr : r = true ↔ Rck f := HR.out
            rw [hrr]
            refine ⟨⟨HTB.out, HAP.out⟩, ?_⟩
            rw [HN.out]
            exact HT.out.iff.1 hTe
          subst hrt
          have HB3 := hide (HB.out.trans (hb3.mono HB.out.size))
          clear hb3 hTe
          go_wp2_with fail
          go_ret
          exact ⟨rfl, HB3.out⟩
        · have hrf : r = false := by
            cases r
            · rfl
            · have hrr : true = true ↔ Rck f := HR.out
              have h := (hrr.1 rfl).2
              rw [HN.out] at h
              have := HT.out.iff.2 h
              omega
          subst hrf
          have HB3 := hide (HB.out.trans (hb3.mono HB.out.size))
          clear hb3 hTl hob
          go_wp2_with fail
          go_ret
          exact ⟨rfl, HB3.out⟩
  · have HTB := hide ht
    have hrf : r = false := by
      cases r
      · rfl
      · have hrr : true = true ↔ Rck f := HR.out
        exact absurd (hrr.1 rfl).tbl ht
    subst hrf
    clear hn hbs hr hres ht
    go_enter Try.func40, Try.ntmps40
    go_wp2_with fail
    refine (l01Table_any _ _ _ f false _ HN.out (by omega) (fun i hi => by have := HBS.out i hi; omega) (HRD.out.later HB0.out) (by simp [HTB.out])).mono ?_
    rintro e w1 ⟨rfl, hq1⟩
    have HB1 := hide (HB0.out.trans (hq1.below _))
    clear hq1
    go_wp2_with fail
    go_ret
    exact ⟨rfl, HB1.out⟩

end Go.Proofs.Ytkflmhmbkilmpab
namespace Go.Proofs.Ytkflmhmbkilmpab
open Go Go.RowKit
set_option maxHeartbeats 2000000

set_option maxRecDepth 100000 in
theorem lrS_any (A : Option Addr) (n c : Nat) (f : List (List Int)) (zs : List (List Int)) (code : Int) (k : Nat) (w : World) (hn : f.length = n) (hb : n ≤ 1048576) (hbs : ∀ i, i < f.length → (f.getD i []).length ≤ 1048576) (hr : Rd2 w A f) (hres : LrRes f zs code) (hk : zs.length = k) :
    Calls Try.prog 26 #[.agg #[.slice A n c]] w (fun e w' => ∃ A' c', e = .returned (.tuple #[.agg #[.slice A' k c'], .int .i64 code]) ∧ Below w.heap.size w w' ∧ Obj2 33 2 w.heap.size w'.heap.size w' A' zs) := by
  have HN := hide hn
  have HBS := hide hbs
  have HRD := hide hr
  have HB0 := hide (((Below.refl _ w).alloc (Nat.le_refl _) (Obj.cells #[Value.slice A n c] 26)).alloc (by simp) (Obj.cells #[.slice none 0 0] 26))
  have HK0 := hide ((Blk.new w 26 [.slice A n c]).alloc (Obj.cells #[.slice none 0 0] 26))
  have HR0 : Hid (Blk ((w.alloc (Obj.cells #[Value.slice A n c] 26)).alloc (Obj.cells #[.slice none 0 0] 26)) (w.heap.size + 1) 26 [.slice none 0 0]) := hide (by have h := Blk.new (w.alloc (Obj.cells #[Value.slice A n c] 26)) 26 [.slice none 0 0]; simpa using h)
  rcases hres with ⟨hp, h7, rfl, rfl⟩ | ⟨hp, h7, rfl, rfl⟩ | ⟨hp, rfl, rfl⟩
  · rw [hn] at hk h7 ⊢
    have hsh := bestS_shape f n (permsS n).length hn (fun i hi => by rw [hp.tbl.rows i (by omega)]; exact hn)
    have hk2 : k = n := by rw [← hk]; exact hsh.1
    subst hk2
    have HTB := hide hp.tbl
    have h7z : ¬ (7 : Int) < (k : Int) := by omega
    clear hk hsh
    have HRK : Hid (RkRes f true) := hide (by unfold RkRes; simp [hp])
    have HP := hide hp
    clear hn hbs hr hp
    go_enter Try.func26, Try.ntmps26
    go_wp2_with fail
    refine (isRackS _ _ _ f true _ HN.out hb HBS.out (HRD.out.later HB0.out) HRK.out).mono ?_
    rintro e w1 ⟨rfl, hb1⟩
    have HB1 := hide (HB0.out.trans (hb1.mono HB0.out.size))
    have HK1 := hide (HK0.out.later hb1)
    have HR1 := hide (HR0.out.later hb1)
    clear hb1
    have k0 := HK1.out.cell 0 _ rfl
    go_wp2_with fail
    clear k0
    refine calls_gen fun w5 hw5 => ?_
    obtain ⟨bc, hbc⟩ : ∃ bc, w1.heap.size = bc := ⟨_, rfl⟩
    have hbx : Below w1.heap.size w1 w5 := by rw [hw5]; exact (Below.refl _ _).alloc (Nat.le_refl _) _
    have HC5 : Hid (Blk w5 bc 22 [.slice A k c]) := hide (by rw [hw5, ← hbc]; exact Blk.new _ _ _)
    have HB5 := hide (HB1.out.trans (hbx.mono HB1.out.size))
    have HR5 := hide (HR1.out.later hbx)
    rw [hbc]
    clear hw5 hbx hbc
    refine (lstK_any bc _ A k c f _ HN.out HTB.out h7 (HC5.out.cell 0 _ rfl) HC5.out.lt (HRD.out.later HB5.out)).mono ?_
    rintro e w2 ⟨go, co, A2, c2, rfl, hb2, hcell2, ho2⟩
    have HB2 := hide (HB5.out.trans (hb2.mono HB5.out.size))
    have HR2 := hide (HR5.out.later hb2)
    have HO2 := hide ho2
    have hlow : w.heap.size + 1 < w5.heap.size := HR5.out.lt
    clear hb2 ho2
    have k2 := HR2.out.cell 0 _ rfl
    have k3 := HR2.out.frozen 0
    go_wp2_with fail
    refine bp_gen fun wf hwf => ?_
    obtain ⟨q0, hbf, hof⟩ := kend hwf HR2.out (by omega) HB2.out HO2.out (by omega) hlow (Nat.le_refl _)
    clear hwf k2 k3
    exact bodyPost_ret (v := .tuple #[.agg #[.slice A2 k c2], .int .i64 0]) (by simp [results, Try.results26, go_sem, q0]) rfl ⟨_, _, rfl, hbf, hof⟩
  · have hk0 : k = 0 := by rw [← hk]; rfl
    subst hk0
    have h7z : (7 : Int) < (n : Int) := by omega
    clear hk
    have HRK : Hid (RkRes f true) := hide (by unfold RkRes; simp [hp])
    have HP := hide hp
    clear hn hbs hr hp
    go_enter Try.func26, Try.ntmps26
    go_wp2_with fail
    refine (isRackS _ _ _ f true _ HN.out hb HBS.out (HRD.out.later HB0.out) HRK.out).mono ?_
    rintro e w1 ⟨rfl, hb1⟩
    have HB1 := hide (HB0.out.trans (hb1.mono HB0.out.size))
    have HK1 := hide (HK0.out.later hb1)
    have HR1 := hide (HR0.out.later hb1)
    clear hb1
    have k0 := HK1.out.cell 0 _ rfl
    have k2 := HR1.out.cell 0 _ rfl
    have k3 := HR1.out.frozen 0
    go_wp2_with fail
    refine bp_gen fun wf hwf => ?_
    have HRF : Blk wf (w.heap.size + 1) 26 [.slice none 0 0] := by rw [hwf]; first | exact HR1.out | exact HR1.out.set 0 _ | exact (HR1.out.set 0 _).set 1 _
    have hbf : Below w.heap.size w wf := by rw [hwf]; first | exact HB1.out | exact HB1.out.setCell (p := ⟨w.heap.size + 1, 0, none⟩) (by show w.heap.size ≤ w.heap.size + 1; omega) _ | exact (HB1.out.setCell (p := ⟨w.heap.size + 1, 0, none⟩) (by show w.heap.size ≤ w.heap.size + 1; omega) _).setCell (p := ⟨w.heap.size + 1, 1, none⟩) (by show w.heap.size ≤ w.heap.size + 1; omega) _
    have q0 := HRF.cell 0 _ rfl
    clear hwf k0 k2 k3
    exact bodyPost_ret (v := .tuple #[.agg #[.slice none 0 0], .int .i64 3]) (by simp [results, Try.results26, go_sem, q0]) rfl ⟨_, _, rfl, hbf, .inl ⟨rfl, rfl⟩⟩

  · have hk0 : k = 0 := by rw [← hk]; rfl
    subst hk0
    clear hk
    have HRK : Hid (RkRes f false) := hide (by unfold RkRes; simp [hp])
    have HP := hide hp
    clear hn hbs hr hp
    go_enter Try.func26, Try.ntmps26
    go_wp2_with fail
    refine (isRackS _ _ _ f false _ HN.out hb HBS.out (HRD.out.later HB0.out) HRK.out).mono ?_
    rintro e w1 ⟨rfl, hb1⟩
    have HB1 := hide (HB0.out.trans (hb1.mono HB0.out.size))
    have HK1 := hide (HK0.out.later hb1)
    have HR1 := hide (HR0.out.later hb1)
    clear hb1
    have k2 := HR1.out.cell 0 _ rfl
    have k3 := HR1.out.frozen 0
    go_wp2_with fail
    refine bp_gen fun wf hwf => ?_
    have HRF : Blk wf (w.heap.size + 1) 26 [.slice none 0 0] := by rw [hwf]; first | exact HR1.out | exact HR1.out.set 0 _ | exact (HR1.out.set 0 _).set 1 _
    have hbf : Below w.heap.size w wf := by rw [hwf]; first | exact HB1.out | exact HB1.out.setCell (p := ⟨w.heap.size + 1, 0, none⟩) (by show w.heap.size ≤ w.heap.size + 1; omega) _ | exact (HB1.out.setCell (p := ⟨w.heap.size + 1, 0, none⟩) (by show w.heap.size ≤ w.heap.size + 1; omega) _).setCell (p := ⟨w.heap.size + 1, 1, none⟩) (by show w.heap.size ≤ w.heap.size + 1; omega) _
    have q0 := HRF.cell 0 _ rfl
    clear hwf k2 k3
    exact bodyPost_ret (v := .tuple #[.agg #[.slice none 0 0], .int .i64 1]) (by simp [results, Try.results26, go_sem, q0]) rfl ⟨_, _, rfl, hbf, .inl ⟨rfl, rfl⟩⟩

end Go.Proofs.Ytkflmhmbkilmpab
