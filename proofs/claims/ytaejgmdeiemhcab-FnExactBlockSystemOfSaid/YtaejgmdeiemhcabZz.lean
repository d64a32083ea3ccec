import Derived.Test.YtaejgmdeiemhcabProg
import Derived.Test.YtaejgmdeiemhcabZi
import Derived.Test.YtaejgmdeiemhcabZf
import Derived.OwnWalk
import Derived.Deep.AppendLies
import Derived.Test.YtaejgmdeiemhcabZy
namespace Go.Proofs.Ytaejgmdeiemhcab
open Go Go.RowKit
set_option maxHeartbeats 1000000

theorem paInfo : (Try.prog.info? 71).map (fun i => (i.zero, i.size, i.bytes)) = some (some (.agg #[.int .i64 0, .int .i64 0]), 2, 16) := by kernel_rfl

/-- The cells of the first k pairs. -/
def pcells (n k : Nat) : List Value := (List.range k).flatMap fun i => [.int .i64 ((i / n : Nat) : Int), .int .i64 ((i % n : Nat) : Int)]
theorem pcells_succ (n k : Nat) : pcells n (k + 1) = pcells n k ++ [.int .i64 ((k / n : Nat) : Int), .int .i64 ((k % n : Nat) : Int)] := by
  unfold pcells
  rw [List.range_succ, List.flatMap_append]
  simp
theorem pcells_length (n k : Nat) : (pcells n k).length = k * 2 := by
  induction k with
  | zero => rfl
  | succ k ih => rw [pcells_succ, List.length_append, ih]; simp; omega
theorem pcells_at (n k i : Nat) (h : i < k) : (pcells n k)[i * 2]? = some (.int .i64 ((i / n : Nat) : Int)) ∧ (pcells n k)[i * 2 + 1]? = some (.int .i64 ((i % n : Nat) : Int)) := by
  induction k with
  | zero => omega
  | succ k ih =>
    have hl := pcells_length n k
    rw [pcells_succ]
    by_cases e : i < k
    · rw [List.getElem?_append_left (by omega), List.getElem?_append_left (by omega)]
      exact ih e
    · have e2 : i = k := by omega
      subst e2
      rw [List.getElem?_append_right (by omega), List.getElem?_append_right (by omega), hl]
      simp
/-- Block g holds all pairs of n elements. -/
def PairsAt (w : World) (g n : Nat) : Prop := g < w.heap.size ∧ ∀ k, k < n * n → w.cell? ⟨g, k * 2, none⟩ = some (.int .i64 ((k / n : Nat) : Int)) ∧ w.cell? ⟨g, k * 2 + 1, none⟩ = some (.int .i64 ((k % n : Nat) : Int))
theorem PairsAt.later {w w' : World} {g n : Nat} (h : PairsAt w g n) (hb : Below w.heap.size w w') : PairsAt w' g n :=
  ⟨Nat.lt_of_lt_of_le h.1 hb.size, fun k hk => ⟨(hb.cell (p := ⟨g, k * 2, none⟩) h.1).trans (h.2 k hk).1, (hb.cell (p := ⟨g, k * 2 + 1, none⟩) h.1).trans (h.2 k hk).2⟩⟩
theorem PairsAt.touch {w w' : World} {g n lo hi : Nat} (h : PairsAt w g n) (ht : Touch lo hi w w') (hs : g < lo ∨ hi ≤ g) : PairsAt w' g n :=
  ⟨Nat.lt_of_lt_of_le h.1 ht.size, fun k hk => ⟨(World.cell?_of_block (a := ⟨g, k * 2, none⟩) (ht.block g h.1 hs)).trans (h.2 k hk).1, (World.cell?_of_block (a := ⟨g, k * 2 + 1, none⟩) (ht.block g h.1 hs)).trans (h.2 k hk).2⟩⟩
theorem pairs_of_owns {w : World} {B g n N : Nat} {t : TypeId} (hN : n * n = N) (h : w.ownsRow B t 2 (.slice (some ⟨g, 0, none⟩) N N) N (pcells n N)) : PairsAt w g n := by
  obtain ⟨h1, h2⟩ := h
  rcases h2 with ⟨hv, _⟩ | ⟨g', cap, cur, hv, hg, hh, a1, a2, a3, a4⟩
  · cases hv
  · cases hv
    refine ⟨(Array.getElem?_eq_some_iff.1 hh).1, fun k hk => ?_⟩
    have hp := pcells_at n N k (by omega)
    rw [← a4, List.getElem?_take, List.getElem?_take, if_pos (by omega), if_pos (by omega)] at hp
    rw [cell_of_row w g (k * 2) cur t (0, 0) hh, cell_of_row w g (k * 2 + 1) cur t (0, 0) hh]
    simpa using hp

set_option maxRecDepth 100000 in
theorem pairsOf_any (n N : Nat) (w : World) (h1 : 1 ≤ n) (h12 : n ≤ 12) (hN : n * n = N) :
    Calls Try.prog 96 #[.int .i64 n] w fun e w' => ∃ g, e = .returned (.slice (some ⟨g, 0, none⟩) N N) ∧ Below w.heap.size w w' ∧ w.heap.size ≤ g ∧ PairsAt w' g n := by
  obtain ⟨i0, hi, hz0, hz1, hz2⟩ := info_parts paInfo
  have hsq : (n : Int) * (n : Int) = (N : Int) := by rw [← hN]; simp
  have hN144 : N ≤ 144 := by rw [← hN]; exact sq_le n h12
  have HN := hide hN
  have hby : i0.bytes = 16 := hz2
  clear hN
  go_enter Try.func96, Try.ntmps96
  go_wp2_with (refine wpList_make_own _ rfl _ _ 99 rfl w.heap.size 71 i0 (.agg #[.int .i64 0, .int .i64 0]) 2 Try.underlying99 hi hz0 hz1 .i64 .i64 (N : Int) N rfl rfl rfl (by rw [hby]; omega) (by unfold maxLen; omega) (Nat.le_refl _) ?_; intro w1 hown1 hgrow1)
  have HO1 := hide hown1
  have HB1 : Hid (Below w.heap.size w w1) := hide ((Below.refl _ w).grown hgrow1 (Nat.le_refl _) (fun g hg => by cases hg))
  clear hown1 hgrow1
  go_wp2_with fail
  have hwl : w.heap.size < w1.heap.size := by have h := HO1.out.2; rcases h with ⟨h, _⟩ | ⟨g, cap, cur, hv, _, hh, _⟩; · cases h
                                              · cases hv; exact (Array.getElem?_eq_some_iff.1 hh).1
  go_loopw [3, 11] (fun v i wr => ∃ x q : Nat, x ≤ n ∧ q = x * n ∧ i = .int .i64 x ∧ v = .slice (some ⟨w.heap.size, 0, none⟩) q N ∧ Below w.heap.size w wr ∧ wr.ownsRow w.heap.size 71 2 (.slice (some ⟨w.heap.size, 0, none⟩) q N) q (pcells n q)) (fun _ i _ => n - (intOf i).toNat)
  case atStart => exact ⟨0, 0, Nat.zero_le _, by simp, rfl, rfl, HB1.out, HO1.out⟩
  case round =>
    obtain ⟨x, q, hx, hq, rfl, rfl, hbe, hown⟩ := hrel
    have HQ := hide hq
    have HB := hide hbe
    have HO := hide hown
    clear hq hbe hown
    by_cases hlt : x < n
    · have hxz : (x : Int) < n := by omega
      go_wp2_with fail
      obtain ⟨wo, rfl⟩ : ∃ wo : World, wo = wr := ⟨_, rfl⟩
      go_loopw [3, 15] (fun v i wi => ∃ y p : Nat, y ≤ n ∧ p = x * n + y ∧ i = .int .i64 y ∧ v = .slice (some ⟨w.heap.size, 0, none⟩) p N ∧ Below w.heap.size w wi ∧ wi.ownsRow w.heap.size 71 2 (.slice (some ⟨w.heap.size, 0, none⟩) p N) p (pcells n p)) (fun _ i _ => n - (intOf i).toNat)
      case atStart => exact ⟨0, q, Nat.zero_le _, by rw [HQ.out]; rfl, rfl, rfl, HB.out, HO.out⟩
      case round =>
        obtain ⟨y, p, hy, hp, rfl, rfl, hbi, hoi⟩ := hrel
        have HP := hide hp
        have HBI := hide hbi
        have HOI := hide hoi
        clear hp hbi hoi
        by_cases hlty : y < n
        · have hyz : (y : Int) < n := by omega
          have hpN : p + 1 ≤ N := by have h := pair_lt n x y hlt hlty; rw [HN.out, ← HP.out] at h; omega
          go_wp2_with (at_builtin; refine wpList_append_fits _ rfl _ _ 99 rfl w.heap.size 71 i0 2 Try.underlying99 hi hz1 w.heap.size p N (pcells n p) rfl (HOI.out.alloc _) ⟨wr.heap.size, 0, none⟩ 1 1 [.int .i64 x, .int .i64 y] rfl rfl (World.news_of_block (cs := #[.int .i64 x, .int .i64 y]) (t := 71) (fr := (0, 0)) (heap_alloc_new wr _)) (by simp [Value.oneCell']) hpN ?_)
          intro w3 hown3 hgrow3
          have hb3 : Below w.heap.size w w3 := (HBI.out.alloc HBI.out.size _).grown hgrow3 (by have := HBI.out.size; simp; omega) (fun g hg => by cases hg; exact Nat.le_refl _)
          have HB3 := hide hb3
          have HO3 := hide hown3
          clear hown3 hgrow3 hb3
          go_wp2_with fail
          go_roundw
          case rel =>
            refine ⟨y + 1, p + 1, by omega, by rw [HP.out]; omega, by go_num, rfl, HB3.out, ?_⟩
            have h := HO3.out
            rw [pcells_succ, HP.out, pair_div n x y hlty, pair_mod n x y hlty, ← HP.out]
            exact h
          case measure => simp [intOf]; omega
        · have hyn : y = n := by omega
          subst hyn
          go_wp2_with fail
          go_roundw
          case rel => exact ⟨x + 1, p, by omega, by rw [HP.out, Nat.add_mul]; omega, by go_num, rfl, HBI.out, HOI.out⟩
          case measure => simp [intOf]; omega
    · have hxn : x = n := by omega
      subst hxn
      have hqn : q = N := by rw [HQ.out, HN.out]
      subst hqn
      go_wp2_with fail
      go_ret
      exact ⟨w.heap.size, rfl, HB.out, Nat.le_refl _, pairs_of_owns HN.out HO.out⟩
end Go.Proofs.Ytaejgmdeiemhcab
namespace Go.Proofs.Ytaejgmdeiemhcab
open Go Go.RowKit
/-! The least partition that K maps of n elements respect, with two elements in one class, and what joining classes in any order makes of it. (XCfF.x has it for the maps of a table.) -/
/-- What must be in one class. -/
inductive MgE (mp : Nat → Nat → Nat) (K x y : Nat) : Nat → Nat → Prop
  | base : MgE mp K x y x y
  | refl (a : Nat) : MgE mp K x y a a
  | symm {a b : Nat} : MgE mp K x y a b → MgE mp K x y b a
  | trans {a b c : Nat} : MgE mp K x y a b → MgE mp K x y b c → MgE mp K x y a c
  | step {a b : Nat} (i : Nat) : i < K → MgE mp K x y a b → MgE mp K x y (mp i a) (mp i b)
/-- How the search stands: classes L, pairs P to be looked at. -/
structure MgS (mp : Nat → Nat → Nat) (K n x y : Nat) (L : List Int) (P : List (Nat × Nat)) : Prop where
  len : L.length = n
  inn : ∀ p, p ∈ P → InN n p
  sound : ∀ a b, a < n → b < n → lb L a = lb L b → MgE mp K x y a b
  pend : ∀ p, p ∈ P → MgE mp K x y p.1 p.2
  start : (x, y) ∈ P ∨ lb L x = lb L y
  full : ∃ J : List (Nat × Nat), (∀ p, p ∈ J → InN n p) ∧ (∀ a b, a < n → b < n → lb L a = lb L b → JnE J a b) ∧ ∀ p, p ∈ J → ∀ i, i < K → (mp i p.1, mp i p.2) ∈ P ∨ lb L (mp i p.1) = lb L (mp i p.2)
section
variable {mp : Nat → Nat → Nat} {K n x y : Nat} {L : List Int} {P P' : List (Nat × Nat)} {q : Nat × Nat} {k l : Int}
theorem MgS.init (hl : L.length = n) (hx : x < n) (hy : y < n) (hu : ∀ a b, a < n → b < n → lb L a = lb L b → a = b) : MgS mp K n x y L [(x, y)] where
  len := hl
  inn := fun p hp => by simp at hp; subst hp; exact ⟨hx, hy⟩
  sound := fun a b ha hb e => by have := hu a b ha hb e; subst this; exact .refl _
  pend := fun p hp => by simp at hp; subst hp; exact .base
  start := .inl (by simp)
  full := ⟨[], by simp, fun a b ha hb e => by have := hu a b ha hb e; subst this; exact .refl _, by simp⟩
/-- A pair whose elements are in one class is put away. -/
theorem MgS.skip (h : MgS mp K n x y L P) (hP : ∀ p, p ∈ P ↔ p = q ∨ p ∈ P') (he : lb L q.1 = lb L q.2) : MgS mp K n x y L P' where
  len := h.len
  inn := fun p hp => h.inn p ((hP p).2 (.inr hp))
  sound := h.sound
  pend := fun p hp => h.pend p ((hP p).2 (.inr hp))
  start := by
    rcases h.start with h1 | h1
    · rcases (hP _).1 h1 with h2 | h2
      · right; rw [← h2] at he; exact he
      · exact .inl h2
    · exact .inr h1
  full := by
    obtain ⟨J, j1, j2, j3⟩ := h.full
    refine ⟨J, j1, j2, fun p hp z hz => ?_⟩
    rcases j3 p hp z hz with h1 | h1
    · rcases (hP _).1 h1 with h2 | h2
      · right; rw [← h2] at he; exact he
      · exact .inl h2
    · exact .inr h1
/-- A pair is joined; all that follows from it is to be looked at. -/
theorem MgS.join (h : MgS mp K n x y L P) (hx : x < n) (hy : y < n) (hmp : ∀ i a, i < K → a < n → mp i a < n) (hq : q ∈ P) (hkl : (k = lb L q.1 ∧ l = lb L q.2) ∨ (k = lb L q.2 ∧ l = lb L q.1))
    (hold : ∀ p, p ∈ P → p ∈ P' ∨ p = q) (hnew : ∀ i, i < K → (mp i q.1, mp i q.2) ∈ P')
    (hP' : ∀ p, p ∈ P' → p ∈ P ∨ ∃ i, i < K ∧ p = (mp i q.1, mp i q.2)) : MgS mp K n x y (joinL L k l) P' := by
  have hqn := h.inn q hq
  have hqe := h.pend q hq
  have hjq : lb (joinL L k l) q.1 = lb (joinL L k l) q.2 := by
    rw [joinL_at L k l q.1 (by rw [h.len]; exact hqn.1), joinL_at L k l q.2 (by rw [h.len]; exact hqn.2)]
    rcases hkl with ⟨rfl, rfl⟩ | ⟨rfl, rfl⟩
    · by_cases e : lb L q.1 = lb L q.2 <;> simp
    · by_cases e : lb L q.2 = lb L q.1 <;> simp
  have co : ∀ a b, a < n → b < n → lb L a = lb L b → lb (joinL L k l) a = lb (joinL L k l) b := fun a b ha hb e => joinL_coarser L k l (by rw [h.len]; exact ha) (by rw [h.len]; exact hb) e
  -- who is together behind the join was, or is by way of q
  have step : ∀ (R : Nat → Nat → Prop), (∀ a, R a a) → (∀ a b, R a b → R b a) → (∀ a b c, R a b → R b c → R a c) → R q.1 q.2 → (∀ a b, a < n → b < n → lb L a = lb L b → R a b) → ∀ a b, a < n → b < n → lb (joinL L k l) a = lb (joinL L k l) b → R a b := by
    intro R rr rs rt rq rl a b ha hb e
    rw [joinL_at L k l a (by rw [h.len]; exact ha), joinL_at L k l b (by rw [h.len]; exact hb)] at e
    -- an element of the class l is together with an element of class k
    obtain ⟨u, v, hu, hv, huk, hvl, huv⟩ : ∃ u v, u < n ∧ v < n ∧ lb L u = k ∧ lb L v = l ∧ R u v := by
      rcases hkl with ⟨rfl, rfl⟩ | ⟨rfl, rfl⟩
      · exact ⟨q.1, q.2, hqn.1, hqn.2, rfl, rfl, rq⟩
      · exact ⟨q.2, q.1, hqn.2, hqn.1, rfl, rfl, rs _ _ rq⟩
    by_cases ea : lb L a = l
    · rw [if_pos ea] at e
      have a1 : R a v := rl a v ha hv (by rw [ea, hvl])
      by_cases eb : lb L b = l
      · exact rl a b ha hb (by rw [ea, eb])
      · rw [if_neg eb] at e
        exact rt _ _ _ a1 (rt _ _ _ (rs _ _ huv) (rl u b hu hb (by rw [huk, e])))
    · rw [if_neg ea] at e
      by_cases eb : lb L b = l
      · rw [if_pos eb] at e
        exact rt _ _ _ (rl a u ha hu (by rw [huk, e])) (rt _ _ _ huv (rl v b hv hb (by rw [hvl, eb])))
      · rw [if_neg eb] at e
        exact rl a b ha hb e
  refine ⟨by rw [joinL_length]; exact h.len, fun p hp => ?_, ?_, fun p hp => ?_, ?_, ?_⟩
  · rcases hP' p hp with h1 | ⟨z, hz, rfl⟩
    · exact h.inn p h1
    · exact ⟨hmp _ _ hz hqn.1, hmp _ _ hz hqn.2⟩
  · exact step (MgE mp K x y) .refl (fun _ _ => .symm) (fun _ _ _ => .trans) hqe h.sound
  · rcases hP' p hp with h1 | ⟨z, hz, rfl⟩
    · exact h.pend p h1
    · exact .step z hz hqe
  · rcases h.start with h1 | h1
    · rcases hold _ h1 with h2 | h2
      · exact .inl h2
      · right; rw [← h2] at hjq; exact hjq
    · exact .inr (co _ _ hx hy h1)
  · obtain ⟨J, j1, j2, j3⟩ := h.full
    refine ⟨q :: J, fun p hp => ?_, ?_, fun p hp z hz => ?_⟩
    · rcases List.mem_cons.1 hp with rfl | hp
      · exact hqn
      · exact j1 p hp
    · exact step (JnE (q :: J)) .refl (fun _ _ => .symm) (fun _ _ _ => .trans) (.base (by simp)) (fun a b ha hb e => (j2 a b ha hb e).more fun p hp => List.mem_cons_of_mem _ hp)
    · rcases List.mem_cons.1 hp with rfl | hp
      · exact .inl (hnew z hz)
      · obtain ⟨i1, i2⟩ := j1 p hp
        rcases j3 p hp z hz with h1 | h1
        · rcases hold _ h1 with h3 | h3
          · exact .inl h3
          · right; rw [← h3] at hjq; exact hjq
        · exact .inr (co _ _ (hmp _ _ hz i1) (hmp _ _ hz i2) h1)
/-- At the end the classes are those of the least partition. -/
theorem MgS.done (h : MgS mp K n x y L []) (hx : x < n) (hy : y < n) (hmp : ∀ i a, i < K → a < n → mp i a < n) : ∀ a b, a < n → b < n → (lb L a = lb L b ↔ MgE mp K x y a b) := by
  obtain ⟨J, j1, j2, j3⟩ := h.full
  have hxy : lb L x = lb L y := by
    rcases h.start with h1 | h1
    · simp at h1
    · exact h1
  have jl : ∀ z, z < K → ∀ a b, JnE J a b → a = b ∨ ((a < n ∧ b < n) ∧ lb L (mp z a) = lb L (mp z b)) := by
    intro z hz a b e
    induction e with
    | @base p hp =>
      right
      have h3 := j3 p hp z hz
      simp at h3
      exact ⟨j1 p hp, h3⟩
    | refl a => exact .inl rfl
    | symm _ ih =>
      rcases ih with e | ⟨⟨i1, i2⟩, i3⟩
      · exact .inl e.symm
      · exact .inr ⟨⟨i2, i1⟩, i3.symm⟩
    | trans _ _ ih1 ih2 =>
      rcases ih1 with e | ⟨⟨i1, i2⟩, i3⟩
      · rw [e]; exact ih2
      · rcases ih2 with e | ⟨⟨k1, k2⟩, k3⟩
        · rw [← e]; exact .inr ⟨⟨i1, i2⟩, i3⟩
        · exact .inr ⟨⟨i1, k2⟩, i3.trans k3⟩
  have cl : ∀ a b, MgE mp K x y a b → a = b ∨ ((a < n ∧ b < n) ∧ lb L a = lb L b) := by
    intro a b e
    induction e with
    | base => exact .inr ⟨⟨hx, hy⟩, hxy⟩
    | refl a => exact .inl rfl
    | symm _ ih =>
      rcases ih with e | ⟨⟨i1, i2⟩, i3⟩
      · exact .inl e.symm
      · exact .inr ⟨⟨i2, i1⟩, i3.symm⟩
    | trans _ _ ih1 ih2 =>
      rcases ih1 with e | ⟨⟨i1, i2⟩, i3⟩
      · rw [e]; exact ih2
      · rcases ih2 with e | ⟨⟨k1, k2⟩, k3⟩
        · rw [← e]; exact .inr ⟨⟨i1, i2⟩, i3⟩
        · exact .inr ⟨⟨i1, k2⟩, i3.trans k3⟩
    | step z hz _ ih =>
      rcases ih with e | ⟨⟨i1, i2⟩, i3⟩
      · exact .inl (by rw [e])
      · right
        refine ⟨⟨hmp _ _ hz i1, hmp _ _ hz i2⟩, ?_⟩
        rcases jl z hz _ _ (j2 _ _ i1 i2 i3) with e | ⟨_, k4⟩
        · rw [e]
        · exact k4
  intro a b ha hb
  refine ⟨h.sound a b ha hb, fun e => ?_⟩
  rcases cl a b e with e | ⟨_, e⟩
  · rw [e]
  · exact e
end
end Go.Proofs.Ytaejgmdeiemhcab
