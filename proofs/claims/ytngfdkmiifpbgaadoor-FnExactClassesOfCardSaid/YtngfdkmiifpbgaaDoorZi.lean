import Derived.Test.YtngfdkmiifpbgaaDoorZg
import Derived.Test.YtngfdkmiifpbgaaDoorZh
import Derived.Test.YtngfdkmiifpbgaaDoorProg
import Derived.Test.YtngfdkmiifpbgaaDoorZe
import Derived.OwnWalk
import Derived.Deep.AppendLies
import Derived.Test.YtngfdkmiifpbgaaDoorZb
import Derived.Deep.RegionLaw
namespace Go.Proofs.YtngfdkmiifpbgaaDoor
open Go Go.RowKit
/-- Three elements, and what doing a pair map at a place makes of them. -/
def at0 (f s : List (List Int)) (t : Nat × Nat × Nat) : Nat × Nat × Nat := (ap f t.1 t.2.1, ap s t.1 t.2.1, t.2.2)
def at1 (f s : List (List Int)) (t : Nat × Nat × Nat) : Nat × Nat × Nat := (t.1, ap f t.2.1 t.2.2, ap s t.2.1 t.2.2)
def doAt (f s : List (List Int)) (i : Nat) (t : Nat × Nat × Nat) : Nat × Nat × Nat := if i = 0 then at0 f s t else at1 f s t
def In3 (n : Nat) (t : Nat × Nat × Nat) : Prop := t.1 < n ∧ t.2.1 < n ∧ t.2.2 < n
def lef (f s : List (List Int)) (t : Nat × Nat × Nat) : Nat × Nat × Nat := doAt f s 0 (doAt f s 1 (doAt f s 0 t))
def rig (f s : List (List Int)) (t : Nat × Nat × Nat) : Nat × Nat × Nat := doAt f s 1 (doAt f s 0 (doAt f s 1 t))
/-- The list of number T. -/
def trip (n T : Nat) : Nat × Nat × Nat := (T / n / n, T / n % n, T % n)
def Eq3 (f s : List (List Int)) (n T : Nat) : Prop := lef f s (trip n T) = rig f s (trip n T)
def lst3 (t : Nat × Nat × Nat) : List Int := [(t.1 : Int), (t.2.1 : Int), (t.2.2 : Int)]
/-- The first list at which the equation does not hold: its number, or the number of all lists. -/
def First (f s : List (List Int)) (n T : Nat) : Prop := (∀ i, i < T → Eq3 f s n i) ∧ T ≤ n * n * n ∧ (T < n * n * n → ¬ Eq3 f s n T)
theorem First.ex (f s : List (List Int)) (n : Nat) : ∃ T, First f s n T := by
  have h : ∀ k, k ≤ n * n * n → (∀ i, i < k → Eq3 f s n i) ∨ ∃ T, First f s n T := by
    intro k
    induction k with
    | zero => intro _; exact .inl (fun i hi => absurd hi (Nat.not_lt_zero _))
    | succ k ih =>
      intro hk
      rcases ih (by omega) with h | h
      · by_cases e : Eq3 f s n k
        · refine .inl (fun i hi => ?_)
          by_cases e2 : i = k
          · subst e2; exact e
          · exact h i (by omega)
        · exact .inr ⟨k, h, by omega, fun _ => e⟩
      · exact .inr h
  rcases h _ (Nat.le_refl _) with h | h
  · exact ⟨_, h, Nat.le_refl _, fun h2 => absurd h2 (by omega)⟩
  · exact h
/-- The first one is where it first fails. -/
theorem First.bad {f s : List (List Int)} {n T k : Nat} (h : First f s n T) (h1 : ∀ i, i < k → Eq3 f s n i) (hk : k < n * n * n) (h2 : ¬ Eq3 f s n k) : T = k := by
  have a : ¬ k < T := fun h3 => h2 (h.1 k h3)
  have b : ¬ T < k := fun h3 => h.2.2 (by omega) (h1 T h3)
  omega
theorem First.all {f s : List (List Int)} {n T : Nat} (h : First f s n T) (h1 : ∀ i, i < n * n * n → Eq3 f s n i) : T = n * n * n := by
  have a := h.2.1
  have b : ¬ T < n * n * n := fun h3 => h.2.2 h3 (h1 T h3)
  omega
theorem trip_of {n x y z : Nat} (hy : y < n) (hz : z < n) : trip n ((x * n + y) * n + z) = (x, y, z) := by
  unfold trip
  rw [pair_div n _ z hz, pair_mod n _ z hz, pair_div n x y hy, pair_mod n x y hy]
theorem trip_lt {n x y z : Nat} (hx : x < n) (hy : y < n) (hz : z < n) : (x * n + y) * n + z < n * n * n := by
  have h := pair_lt n x y hx hy
  have h2 : (x * n + y + 1) * n ≤ n * n * n := Nat.mul_le_mul_right n h
  rw [Nat.add_mul, Nat.one_mul] at h2
  omega
theorem In3.do {f s : List (List Int)} (hp : PMap f s) {n : Nat} (hn : f.length = n) {t : Nat × Nat × Nat} (h : In3 n t) (i : Nat) : In3 n (doAt f s i t) := by
  have hm : s.length = n := by rw [← hp.2.2]; exact hn
  obtain ⟨h1, h2, h3⟩ := h
  unfold doAt
  by_cases e : i = 0
  · rw [if_pos e]; exact ⟨hp.1.ap_lt hn h1 h2, hp.2.1.ap_lt hm h1 h2, h3⟩
  · rw [if_neg e]; exact ⟨h1, hp.1.ap_lt hn h2 h3, hp.2.1.ap_lt hm h2 h3⟩
def EqRes (f s : List (List Int)) (zs : List Int) (code : Int) : Prop :=
  (PMap f s ∧ ∃ T, First f s f.length T ∧ ((T < f.length * f.length * f.length ∧ zs = lst3 (trip f.length T) ∧ code = 0) ∨ (T = f.length * f.length * f.length ∧ zs = [] ∧ code = 4))) ∨ (¬ PMap f s ∧ zs = [] ∧ code = 1)
theorem EqRes.ex (f s : List (List Int)) : ∃ zs code, EqRes f s zs code ∧ zs.length ≤ 1048576 := by
  by_cases h : PMap f s
  · obtain ⟨T, hT⟩ := First.ex f s f.length
    by_cases h2 : T < f.length * f.length * f.length
    · exact ⟨_, _, .inl ⟨h, T, hT, .inl ⟨h2, rfl, rfl⟩⟩, by simp [lst3]⟩
    · exact ⟨_, _, .inl ⟨h, T, hT, .inr ⟨by have := hT.2.1; omega, rfl, rfl⟩⟩, by simp⟩
  · exact ⟨_, _, .inr ⟨h, rfl, rfl⟩, by simp⟩
end Go.Proofs.YtngfdkmiifpbgaaDoor
namespace Go.Proofs.YtngfdkmiifpbgaaDoor
open Go Go.RowKit
open Classical

theorem Rch.trans {rows : List (List Int)} {x y z : Nat} (h : Rch rows x y) (k : Rch rows y z) : Rch rows x z := by
  induction k with
  | start => exact h
  | step _ hs ih => exact .step ih hs

/-- The labels when the elements below k are done, and the number of the next orbit. -/
noncomputable def lab (rows : List (List Int)) : Nat → (Nat → Int) × Nat
  | 0 => (fun _ => -1, 0)
  | x + 1 => if 0 ≤ (lab rows x).1 x then lab rows x else (fun y => if Rch rows x y then ((lab rows x).2 : Int) else (lab rows x).1 y, (lab rows x).2 + 1)
noncomputable def labL (rows : List (List Int)) (n k : Nat) : List Int := (List.range n).map (lab rows k).1
theorem labL_length (rows : List (List Int)) (n k : Nat) : (labL rows n k).length = n := by simp [labL]
theorem labL_at (rows : List (List Int)) (n k y : Nat) (h : y < n) : (labL rows n k).getD y 0 = (lab rows k).1 y := by simp [labL, h]
theorem lab_le (rows : List (List Int)) (k : Nat) : (lab rows k).2 ≤ k := by
  induction k with
  | zero => simp [lab]
  | succ k ih =>
    unfold lab
    split
    · omega
    · show (lab rows k).2 + 1 ≤ k + 1; omega
theorem lab_lo (rows : List (List Int)) (k y : Nat) : -1 ≤ (lab rows k).1 y ∧ (lab rows k).1 y ≤ k := by
  induction k with
  | zero => simp [lab]
  | succ k ih =>
    unfold lab
    split
    · omega
    · have := lab_le rows k
      show -1 ≤ (if Rch rows k y then ((lab rows k).2 : Int) else (lab rows k).1 y) ∧ (if Rch rows k y then ((lab rows k).2 : Int) else (lab rows k).1 y) ≤ _
      split <;> omega

/-- Rows of permutations of n elements. -/
def Gens (rows : List (List Int)) (n : Nat) : Prop := ∀ r, r < rows.length → (rows.getD r []).length = n ∧ Prm (rows.getD r [])
theorem Gens.at {rows : List (List Int)} {n : Nat} (h : Gens rows n) {r v : Nat} (hr : r < rows.length) (hv : v < n) : 0 ≤ (rows.getD r []).getD v 0 ∧ (rows.getD r []).getD v 0 < (n : Int) := by
  obtain ⟨hl, hp⟩ := h r hr
  obtain ⟨p, hpe⟩ : ∃ p, p = rows.getD r [] := ⟨_, rfl⟩
  rw [← hpe] at hl hp ⊢
  have hm : p.getD v 0 ∈ p := by have : v < p.length := (by omega); simp [this]
  have := hp.2.2.1 _ hm
  rw [hl] at this
  exact this
theorem Gens.inj {rows : List (List Int)} {n : Nat} (h : Gens rows n) {r u v : Nat} (hr : r < rows.length) (hu : u < n) (hv : v < n) (e : ((rows.getD r []).getD u 0).toNat = ((rows.getD r []).getD v 0).toNat) : u = v := by
  have h1 := h.at hr hu
  have h2 := h.at hr hv
  obtain ⟨hl, hp⟩ := h r hr
  obtain ⟨p, hpe⟩ : ∃ p, p = rows.getD r [] := ⟨_, rfl⟩
  rw [← hpe] at hl hp e h1 h2
  have e2 : p.getD u 0 = p.getD v 0 := by omega
  have hul : u < p.length := by omega
  have hvl : v < p.length := by omega
  have e3 : p[u] = p[v] := by simpa [hul, hvl] using e2
  have hpw := List.pairwise_iff_getElem.1 hp.2.2.2
  rcases Nat.lt_trichotomy u v with h | h | h
  · exact absurd e3 (hpw u v hul hvl h)
  · exact h
  · exact absurd e3.symm (hpw v u hvl hul h)
theorem Gens.stay {rows : List (List Int)} {n : Nat} (h : Gens rows n) {x y : Nat} (hx : x < n) (hr : Rch rows x y) : y < n := by
  induction hr with
  | start => exact hx
  | step _ hs ih =>
    obtain ⟨r, hr, e⟩ := hs
    have := h.at hr ih
    omega
theorem Gens.back {rows : List (List Int)} {n : Nat} (h : Gens rows n) {x y z : Nat} (hx : x < n) (hy : y < n) (hs : stp rows y z) (hz : Rch rows x z) : Rch rows x y := by
  obtain ⟨r, hr, e⟩ := hs
  let l : List Nat := (List.range n).filter (fun v => decide (Rch rows x v))
  have hl : l.Nodup := List.Pairwise.filter _ List.nodup_range
  have hml : ∀ v, v ∈ l ↔ v < n ∧ Rch rows x v := fun v => by simp [l]
  let f : Nat → Nat := fun v => ((rows.getD r []).getD v 0).toNat
  have hnd : (l.map f).Nodup := by
    rw [List.nodup_iff_pairwise_ne, List.pairwise_map]
    refine List.Pairwise.imp_of_mem ?_ (List.nodup_iff_pairwise_ne.1 hl)
    intro a b ha hb hne e2
    exact hne (h.inj hr ((hml a).1 ha).1 ((hml b).1 hb).1 e2)
  have hsub : ∀ a ∈ l.map f, a ∈ l := by
    intro a ha
    obtain ⟨v, hv, rfl⟩ := List.mem_map.1 ha
    have hv' := (hml v).1 hv
    have hr' : Rch rows x (f v) := .step hv'.2 ⟨r, hr, rfl⟩
    exact (hml _).2 ⟨h.stay hx hr', hr'⟩
  obtain ⟨l', hl'⟩ := subset_perm (l.map f) l hnd hsub
  have hlen := hl'.length_eq
  rw [List.length_append, List.length_map] at hlen
  have h0 : l' = [] := List.eq_nil_of_length_eq_zero (by omega)
  subst h0
  rw [List.append_nil] at hl'
  have hzl : z ∈ l := (hml z).2 ⟨h.stay hx hz, hz⟩
  obtain ⟨y', hy', e'⟩ := List.mem_map.1 (hl'.mem_iff.1 hzl)
  have hy2 := (hml y').1 hy'
  have : y = y' := h.inj hr hy hy2.1 (by rw [e]; exact e'.symm)
  rw [this]
  exact hy2.2
theorem lab_closed {rows : List (List Int)} {n : Nat} (h : Gens rows n) (k : Nat) (hk : k ≤ n) (y z : Nat) (hy : y < n) (hs : stp rows y z) : 0 ≤ (lab rows k).1 y ↔ 0 ≤ (lab rows k).1 z := by
  induction k with
  | zero => simp [lab]
  | succ k ih =>
    have ih := ih (by omega)
    unfold lab
    split
    · exact ih
    · show 0 ≤ (if Rch rows k y then ((lab rows k).2 : Int) else (lab rows k).1 y) ↔ 0 ≤ (if Rch rows k z then ((lab rows k).2 : Int) else (lab rows k).1 z)
      by_cases h1 : Rch rows k y
      · rw [if_pos h1, if_pos (.step h1 hs)]
      · have h2 : ¬ Rch rows k z := fun h2 => h1 (h.back (by omega) hy hs h2)
        rw [if_neg h1, if_neg h2]
        exact ih
theorem Sys.gens {n : Nat} {rows : List (List Int)} (h : Sys (n : Int) rows) : Gens rows n := fun r hr => ⟨by have := (h.2.2.2 r hr).1; omega, (h.2.2.2 r hr).2⟩
def OrbRes (n : Int) (rows : List (List Int)) (zs : List Int) (code : Int) : Prop := (Sys n rows ∧ zs = labL rows n.toNat n.toNat ∧ code = 0) ∨ (¬ Sys n rows ∧ zs = [] ∧ code = 1)
theorem OrbRes.ex (n : Int) (rows : List (List Int)) : ∃ zs code, OrbRes n rows zs code ∧ zs.length ≤ 4194304 := by
  by_cases h : Sys n rows
  · exact ⟨_, _, .inl ⟨h, rfl, rfl⟩, by rw [labL_length]; have := h.2.1; omega⟩
  · exact ⟨_, _, .inr ⟨h, rfl, rfl⟩, by simp⟩
end Go.Proofs.YtngfdkmiifpbgaaDoor
namespace Go.Proofs.YtngfdkmiifpbgaaDoor
open Go Go.RowKit
set_option maxHeartbeats 1000000

theorem paInfo : (Tryd.prog.info? 67).map (fun i => (i.zero, i.size, i.bytes)) = some (some (.agg #[.int .i64 0, .int .i64 0]), 2, 16) := by kernel_rfl

/-- The cells of the first k pairs. -/
def pcells (n k : Nat) : List Value := (List.range k).flatMap fun i => [.int .i64 ((i / n : Nat) : Int), .int .i64 ((i % n : Nat) : Int)]
theorem pcells_succ (n k : Nat) : pcells n (k + 1) = pcells n k ++ [.int .i64 ((k / n : Nat) : Int), .int .i64 ((k % n : Nat) : Int)] := by
  unfold pcells
  rw [List.range_succ, List.flatMap_append]
  simp
theorem pcells_length (n k : Nat) : (pcells n k).length = k * 2 := by
  induction k with
  | zero => rfl
  | succ k ih => rw [pcells_succ, List.length_append, ih]; simp; omega
theorem pcells_at (n k i : Nat) (h : i < k) : (pcells n k)[i * 2]? = some (.int .i64 ((i / n : Nat) : Int)) ∧ (pcells n k)[i * 2 + 1]? = some (.int .i64 ((i % n : Nat) : Int)) := by
  induction k with
  | zero => omega
  | succ k ih =>
    have hl := pcells_length n k
    rw [pcells_succ]
    by_cases e : i < k
    · rw [List.getElem?_append_left (by omega), List.getElem?_append_left (by omega)]
      exact ih e
    · have e2 : i = k := by omega
      subst e2
      rw [List.getElem?_append_right (by omega), List.getElem?_append_right (by omega), hl]
      simp
/-- Block g holds all pairs of n elements. -/
def PairsAt (w : World) (g n : Nat) : Prop := g < w.heap.size ∧ ∀ k, k < n * n → w.cell? ⟨g, k * 2, none⟩ = some (.int .i64 ((k / n : Nat) : Int)) ∧ w.cell? ⟨g, k * 2 + 1, none⟩ = some (.int .i64 ((k % n : Nat) : Int))
theorem PairsAt.later {w w' : World} {g n : Nat} (h : PairsAt w g n) (hb : Below w.heap.size w w') : PairsAt w' g n :=
  ⟨Nat.lt_of_lt_of_le h.1 hb.size, fun k hk => ⟨(hb.cell (p := ⟨g, k * 2, none⟩) h.1).trans (h.2 k hk).1, (hb.cell (p := ⟨g, k * 2 + 1, none⟩) h.1).trans (h.2 k hk).2⟩⟩
theorem PairsAt.touch {w w' : World} {g n lo hi : Nat} (h : PairsAt w g n) (ht : Touch lo hi w w') (hs : g < lo ∨ hi ≤ g) : PairsAt w' g n :=
  ⟨Nat.lt_of_lt_of_le h.1 ht.size, fun k hk => ⟨(World.cell?_of_block (a := ⟨g, k * 2, none⟩) (ht.block g h.1 hs)).trans (h.2 k hk).1, (World.cell?_of_block (a := ⟨g, k * 2 + 1, none⟩) (ht.block g h.1 hs)).trans (h.2 k hk).2⟩⟩
theorem pairs_of_owns {w : World} {B g n N : Nat} {t : TypeId} (hN : n * n = N) (h : w.ownsRow B t 2 (.slice (some ⟨g, 0, none⟩) N N) N (pcells n N)) : PairsAt w g n := by
  obtain ⟨h1, h2⟩ := h
  rcases h2 with ⟨hv, _⟩ | ⟨g', cap, cur, hv, hg, hh, a1, a2, a3, a4⟩
  · cases hv
  · cases hv
    refine ⟨(Array.getElem?_eq_some_iff.1 hh).1, fun k hk => ?_⟩
    have hp := pcells_at n N k (by omega)
    rw [← a4, List.getElem?_take, List.getElem?_take, if_pos (by omega), if_pos (by omega)] at hp
    rw [cell_of_row w g (k * 2) cur t (0, 0) hh, cell_of_row w g (k * 2 + 1) cur t (0, 0) hh]
    simpa using hp

set_option maxRecDepth 100000 in
theorem pairsOf_any (n N : Nat) (w : World) (h1 : 1 ≤ n) (h12 : n ≤ 12) (hN : n * n = N) :
    Calls Tryd.prog 48 #[.int .i64 n] w fun e w' => ∃ g, e = .returned (.slice (some ⟨g, 0, none⟩) N N) ∧ Below w.heap.size w w' ∧ w.heap.size ≤ g ∧ PairsAt w' g n := by
  obtain ⟨i0, hi, hz0, hz1, hz2⟩ := info_parts paInfo
  have hsq : (n : Int) * (n : Int) = (N : Int) := by rw [← hN]; simp
  have hN144 : N ≤ 144 := by rw [← hN]; exact sq_le n h12
  have HN := hide hN
  have hby : i0.bytes = 16 := hz2
  clear hN
  go_enter Tryd.func48, Tryd.ntmps48
  go_wp2_with (refine wpList_make_own _ rfl _ _ 64 rfl w.heap.size 67 i0 (.agg #[.int .i64 0, .int .i64 0]) 2 Tryd.underlying64 hi hz0 hz1 .i64 .i64 (N : Int) N rfl rfl rfl (by rw [hby]; omega) (by unfold maxLen; omega) (Nat.le_refl _) ?_; intro w1 hown1 hgrow1)
  have HO1 := hide hown1
  have HB1 : Hid (Below w.heap.size w w1) := hide ((Below.refl _ w).grown hgrow1 (Nat.le_refl _) (fun g hg => by cases hg))
  clear hown1 hgrow1
  go_wp2_with fail
  have hwl : w.heap.size < w1.heap.size := by have h := HO1.out.2; rcases h with ⟨h, _⟩ | ⟨g, cap, cur, hv, _, hh, _⟩; · cases h
                                              · cases hv; exact (Array.getElem?_eq_some_iff.1 hh).1
  go_loopw [3, 11] (fun v i wr => ∃ x q : Nat, x ≤ n ∧ q = x * n ∧ i = .int .i64 x ∧ v = .slice (some ⟨w.heap.size, 0, none⟩) q N ∧ Below w.heap.size w wr ∧ wr.ownsRow w.heap.size 67 2 (.slice (some ⟨w.heap.size, 0, none⟩) q N) q (pcells n q)) (fun _ i _ => n - (intOf i).toNat)
  case atStart => exact ⟨0, 0, Nat.zero_le _, by simp, rfl, rfl, HB1.out, HO1.out⟩
  case round =>
    obtain ⟨x, q, hx, hq, rfl, rfl, hbe, hown⟩ := hrel
    have HQ := hide hq
    have HB := hide hbe
    have HO := hide hown
    clear hq hbe hown
    by_cases hlt : x < n
    · have hxz : (x : Int) < n := by omega
      go_wp2_with fail
      obtain ⟨wo, rfl⟩ : ∃ wo : World, wo = wr := ⟨_, rfl⟩
      go_loopw [3, 15] (fun v i wi => ∃ y p : Nat, y ≤ n ∧ p = x * n + y ∧ i = .int .i64 y ∧ v = .slice (some ⟨w.heap.size, 0, none⟩) p N ∧ Below w.heap.size w wi ∧ wi.ownsRow w.heap.size 67 2 (.slice (some ⟨w.heap.size, 0, none⟩) p N) p (pcells n p)) (fun _ i _ => n - (intOf i).toNat)
      case atStart => exact ⟨0, q, Nat.zero_le _, by rw [HQ.out]; rfl, rfl, rfl, HB.out, HO.out⟩
      case round =>
        obtain ⟨y, p, hy, hp, rfl, rfl, hbi, hoi⟩ := hrel
        have HP := hide hp
        have HBI := hide hbi
        have HOI := hide hoi
        clear hp hbi hoi
        by_cases hlty : y < n
        · have hyz : (y : Int) < n := by omega
          have hpN : p + 1 ≤ N := by have h := pair_lt n x y hlt hlty; rw [HN.out, ← HP.out] at h; omega
          go_wp2_with (at_builtin; refine wpList_append_fits _ rfl _ _ 64 rfl w.heap.size 67 i0 2 Tryd.underlying64 hi hz1 w.heap.size p N (pcells n p) rfl (HOI.out.alloc _) ⟨wr.heap.size, 0, none⟩ 1 1 [.int .i64 x, .int .i64 y] rfl rfl (World.news_of_block (cs := #[.int .i64 x, .int .i64 y]) (t := 67) (fr := (0, 0)) (heap_alloc_new wr _)) (by simp [Value.oneCell']) hpN ?_)
          intro w3 hown3 hgrow3
          have hb3 : Below w.heap.size w w3 := (HBI.out.alloc HBI.out.size _).grown hgrow3 (by have := HBI.out.size; simp; omega) (fun g hg => by cases hg; exact Nat.le_refl _)
          have HB3 := hide hb3
          have HO3 := hide hown3
          clear hown3 hgrow3 hb3
          go_wp2_with fail
          go_roundw
          case rel =>
            refine ⟨y + 1, p + 1, by omega, by rw [HP.out]; omega, by go_num, rfl, HB3.out, ?_⟩
            have h := HO3.out
            rw [pcells_succ, HP.out, pair_div n x y hlty, pair_mod n x y hlty, ← HP.out]
            exact h
          case measure => simp [intOf]; omega
        · have hyn : y = n := by omega
          subst hyn
          go_wp2_with fail
          go_roundw
          case rel => exact ⟨x + 1, p, by omega, by rw [HP.out, Nat.add_mul]; omega, by go_num, rfl, HBI.out, HOI.out⟩
          case measure => simp [intOf]; omega
    · have hxn : x = n := by omega
      subst hxn
      have hqn : q = N := by rw [HQ.out, HN.out]
      subst hqn
      go_wp2_with fail
      go_ret
      exact ⟨w.heap.size, rfl, HB.out, Nat.le_refl _, pairs_of_owns HN.out HO.out⟩
end Go.Proofs.YtngfdkmiifpbgaaDoor
namespace Go.Proofs.YtngfdkmiifpbgaaDoor
open Go Go.RowKit
/-! The least partition that K maps of n elements respect, with two elements in one class, and what joining classes in any order makes of it. (XCfF.x has it for the maps of a table.) -/
/-- What must be in one class. -/
inductive MgE (mp : Nat → Nat → Nat) (K x y : Nat) : Nat → Nat → Prop
  | base : MgE mp K x y x y
  | refl (a : Nat) : MgE mp K x y a a
  | symm {a b : Nat} : MgE mp K x y a b → MgE mp K x y b a
  | trans {a b c : Nat} : MgE mp K x y a b → MgE mp K x y b c → MgE mp K x y a c
  | step {a b : Nat} (i : Nat) : i < K → MgE mp K x y a b → MgE mp K x y (mp i a) (mp i b)
/-- How the search stands: classes L, pairs P to be looked at. -/
structure MgS (mp : Nat → Nat → Nat) (K n x y : Nat) (L : List Int) (P : List (Nat × Nat)) : Prop where
  len : L.length = n
  inn : ∀ p, p ∈ P → InN n p
  sound : ∀ a b, a < n → b < n → lb L a = lb L b → MgE mp K x y a b
  pend : ∀ p, p ∈ P → MgE mp K x y p.1 p.2
  start : (x, y) ∈ P ∨ lb L x = lb L y
  full : ∃ J : List (Nat × Nat), (∀ p, p ∈ J → InN n p) ∧ (∀ a b, a < n → b < n → lb L a = lb L b → JnE J a b) ∧ ∀ p, p ∈ J → ∀ i, i < K → (mp i p.1, mp i p.2) ∈ P ∨ lb L (mp i p.1) = lb L (mp i p.2)
section
variable {mp : Nat → Nat → Nat} {K n x y : Nat} {L : List Int} {P P' : List (Nat × Nat)} {q : Nat × Nat} {k l : Int}
theorem MgS.init (hl : L.length = n) (hx : x < n) (hy : y < n) (hu : ∀ a b, a < n → b < n → lb L a = lb L b → a = b) : MgS mp K n x y L [(x, y)] where
  len := hl
  inn := fun p hp => by simp at hp; subst hp; exact ⟨hx, hy⟩
  sound := fun a b ha hb e => by have := hu a b ha hb e; subst this; exact .refl _
  pend := fun p hp => by simp at hp; subst hp; exact .base
  start := .inl (by simp)
  full := ⟨[], by simp, fun a b ha hb e => by have := hu a b ha hb e; subst this; exact .refl _, by simp⟩
/-- A pair whose elements are in one class is put away. -/
theorem MgS.skip (h : MgS mp K n x y L P) (hP : ∀ p, p ∈ P ↔ p = q ∨ p ∈ P') (he : lb L q.1 = lb L q.2) : MgS mp K n x y L P' where
  len := h.len
  inn := fun p hp => h.inn p ((hP p).2 (.inr hp))
  sound := h.sound
  pend := fun p hp => h.pend p ((hP p).2 (.inr hp))
  start := by
    rcases h.start with h1 | h1
    · rcases (hP _).1 h1 with h2 | h2
      · right; rw [← h2] at he; exact he
      · exact .inl h2
    · exact .inr h1
  full := by
    obtain ⟨J, j1, j2, j3⟩ := h.full
    refine ⟨J, j1, j2, fun p hp z hz => ?_⟩
    rcases j3 p hp z hz with h1 | h1
    · rcases (hP _).1 h1 with h2 | h2
      · right; rw [← h2] at he; exact he
      · exact .inl h2
    · exact .inr h1
/-- A pair is joined; all that follows from it is to be looked at. -/
theorem MgS.join (h : MgS mp K n x y L P) (hx : x < n) (hy : y < n) (hmp : ∀ i a, i < K → a < n → mp i a < n) (hq : q ∈ P) (hkl : (k = lb L q.1 ∧ l = lb L q.2) ∨ (k = lb L q.2 ∧ l = lb L q.1))
    (hold : ∀ p, p ∈ P → p ∈ P' ∨ p = q) (hnew : ∀ i, i < K → (mp i q.1, mp i q.2) ∈ P')
    (hP' : ∀ p, p ∈ P' → p ∈ P ∨ ∃ i, i < K ∧ p = (mp i q.1, mp i q.2)) : MgS mp K n x y (joinL L k l) P' := by
  have hqn := h.inn q hq
  have hqe := h.pend q hq
  have hjq : lb (joinL L k l) q.1 = lb (joinL L k l) q.2 := by
    rw [joinL_at L k l q.1 (by rw [h.len]; exact hqn.1), joinL_at L k l q.2 (by rw [h.len]; exact hqn.2)]
    rcases hkl with ⟨rfl, rfl⟩ | ⟨rfl, rfl⟩
    · by_cases e : lb L q.1 = lb L q.2 <;> simp
    · by_cases e : lb L q.2 = lb L q.1 <;> simp
  have co : ∀ a b, a < n → b < n → lb L a = lb L b → lb (joinL L k l) a = lb (joinL L k l) b := fun a b ha hb e => joinL_coarser L k l (by rw [h.len]; exact ha) (by rw [h.len]; exact hb) e
  -- who is together behind the join was, or is by way of q
  have step : ∀ (R : Nat → Nat → Prop), (∀ a, R a a) → (∀ a b, R a b → R b a) → (∀ a b c, R a b → R b c → R a c) → R q.1 q.2 → (∀ a b, a < n → b < n → lb L a = lb L b → R a b) → ∀ a b, a < n → b < n → lb (joinL L k l) a = lb (joinL L k l) b → R a b := by
    intro R rr rs rt rq rl a b ha hb e
    rw [joinL_at L k l a (by rw [h.len]; exact ha), joinL_at L k l b (by rw [h.len]; exact hb)] at e
    -- an element of the class l is together with an element of class k
    obtain ⟨u, v, hu, hv, huk, hvl, huv⟩ : ∃ u v, u < n ∧ v < n ∧ lb L u = k ∧ lb L v = l ∧ R u v := by
      rcases hkl with ⟨rfl, rfl⟩ | ⟨rfl, rfl⟩
      · exact ⟨q.1, q.2, hqn.1, hqn.2, rfl, rfl, rq⟩
      · exact ⟨q.2, q.1, hqn.2, hqn.1, rfl, rfl, rs _ _ rq⟩
    by_cases ea : lb L a = l
    · rw [if_pos ea] at e
      have a1 : R a v := rl a v ha hv (by rw [ea, hvl])
      by_cases eb : lb L b = l
      · exact rl a b ha hb (by rw [ea, eb])
      · rw [if_neg eb] at e
        exact rt _ _ _ a1 (rt _ _ _ (rs _ _ huv) (rl u b hu hb (by rw [huk, e])))
    · rw [if_neg ea] at e
      by_cases eb : lb L b = l
      · rw [if_pos eb] at e
        exact rt _ _ _ (rl a u ha hu (by rw [huk, e])) (rt _ _ _ huv (rl v b hv hb (by rw [hvl, eb])))
      · rw [if_neg eb] at e
        exact rl a b ha hb e
  refine ⟨by rw [joinL_length]; exact h.len, fun p hp => ?_, ?_, fun p hp => ?_, ?_, ?_⟩
  · rcases hP' p hp with h1 | ⟨z, hz, rfl⟩
    · exact h.inn p h1
    · exact ⟨hmp _ _ hz hqn.1, hmp _ _ hz hqn.2⟩
  · exact step (MgE mp K x y) .refl (fun _ _ => .symm) (fun _ _ _ => .trans) hqe h.sound
  · rcases hP' p hp with h1 | ⟨z, hz, rfl⟩
    · exact h.pend p h1
    · exact .step z hz hqe
  · rcases h.start with h1 | h1
    · rcases hold _ h1 with h2 | h2
      · exact .inl h2
      · right; rw [← h2] at hjq; exact hjq
    · exact .inr (co _ _ hx hy h1)
  · obtain ⟨J, j1, j2, j3⟩ := h.full
    refine ⟨q :: J, fun p hp => ?_, ?_, fun p hp z hz => ?_⟩
    · rcases List.mem_cons.1 hp with rfl | hp
      · exact hqn
      · exact j1 p hp
    · exact step (JnE (q :: J)) .refl (fun _ _ => .symm) (fun _ _ _ => .trans) (.base (by simp)) (fun a b ha hb e => (j2 a b ha hb e).more fun p hp => List.mem_cons_of_mem _ hp)
    · rcases List.mem_cons.1 hp with rfl | hp
      · exact .inl (hnew z hz)
      · obtain ⟨i1, i2⟩ := j1 p hp
        rcases j3 p hp z hz with h1 | h1
        · rcases hold _ h1 with h3 | h3
          · exact .inl h3
          · right; rw [← h3] at hjq; exact hjq
        · exact .inr (co _ _ (hmp _ _ hz i1) (hmp _ _ hz i2) h1)
/-- At the end the classes are those of the least partition. -/
theorem MgS.done (h : MgS mp K n x y L []) (hx : x < n) (hy : y < n) (hmp : ∀ i a, i < K → a < n → mp i a < n) : ∀ a b, a < n → b < n → (lb L a = lb L b ↔ MgE mp K x y a b) := by
  obtain ⟨J, j1, j2, j3⟩ := h.full
  have hxy : lb L x = lb L y := by
    rcases h.start with h1 | h1
    · simp at h1
    · exact h1
  have jl : ∀ z, z < K → ∀ a b, JnE J a b → a = b ∨ ((a < n ∧ b < n) ∧ lb L (mp z a) = lb L (mp z b)) := by
    intro z hz a b e
    induction e with
    | @base p hp =>
      right
      have h3 := j3 p hp z hz
      simp at h3
      exact ⟨j1 p hp, h3⟩
    | refl a => exact .inl rfl
    | symm _ ih =>
      rcases ih with e | ⟨⟨i1, i2⟩, i3⟩
      · exact .inl e.symm
      · exact .inr ⟨⟨i2, i1⟩, i3.symm⟩
    | trans _ _ ih1 ih2 =>
      rcases ih1 with e | ⟨⟨i1, i2⟩, i3⟩
      · rw [e]; exact ih2
      · rcases ih2 with e | ⟨⟨k1, k2⟩, k3⟩
        · rw [← e]; exact .inr ⟨⟨i1, i2⟩, i3⟩
        · exact .inr ⟨⟨i1, k2⟩, i3.trans k3⟩
  have cl : ∀ a b, MgE mp K x y a b → a = b ∨ ((a < n ∧ b < n) ∧ lb L a = lb L b) := by
    intro a b e
    induction e with
    | base => exact .inr ⟨⟨hx, hy⟩, hxy⟩
    | refl a => exact .inl rfl
    | symm _ ih =>
      rcases ih with e | ⟨⟨i1, i2⟩, i3⟩
      · exact .inl e.symm
      · exact .inr ⟨⟨i2, i1⟩, i3.symm⟩
    | trans _ _ ih1 ih2 =>
      rcases ih1 with e | ⟨⟨i1, i2⟩, i3⟩
      · rw [e]; exact ih2
      · rcases ih2 with e | ⟨⟨k1, k2⟩, k3⟩
        · rw [← e]; exact .inr ⟨⟨i1, i2⟩, i3⟩
        · exact .inr ⟨⟨i1, k2⟩, i3.trans k3⟩
    | step z hz _ ih =>
      rcases ih with e | ⟨⟨i1, i2⟩, i3⟩
      · exact .inl (by rw [e])
      · right
        refine ⟨⟨hmp _ _ hz i1, hmp _ _ hz i2⟩, ?_⟩
        rcases jl z hz _ _ (j2 _ _ i1 i2 i3) with e | ⟨_, k4⟩
        · rw [e]
        · exact k4
  intro a b ha hb
  refine ⟨h.sound a b ha hb, fun e => ?_⟩
  rcases cl a b e with e | ⟨_, e⟩
  · rw [e]
  · exact e
end
end Go.Proofs.YtngfdkmiifpbgaaDoor
namespace Go.Proofs.YtngfdkmiifpbgaaDoor
open Go Go.RowKit
set_option maxHeartbeats 2000000

theorem orInfo : (Tryd.prog.info? 2).map (fun i => (i.zero, i.size, i.bytes)) = some (some (.int .i64 0), 1, 8) := by kernel_rfl
theorem or_new {w : World} {v : Value} : ∀ j u, [v][j]? = some u → (w.alloc (.cells #[v] 2)).cell? ((⟨w.heap.size, 0, none⟩ : Addr).add j) = some u := by
  intro j u hj
  match j, hj with
  | 0, hj => simp at hj; subst hj; simp [Addr.add, World.cell?_alloc_new]
theorem own_one (w : World) (t : TypeId) (v : Value) : (w.alloc (.cells #[v] t)).ownsRow w.heap.size t 1 (.slice (some ⟨w.heap.size, 0, none⟩) 1 1) 1 [v] :=
  ⟨by simp, .inr ⟨w.heap.size, 1, #[v], rfl, Nat.le_refl _, heap_alloc_new _ _, Nat.le_refl _, by unfold maxLen; omega, by simp, by simp⟩⟩

set_option maxRecDepth 20000 in
theorem l01Orbit_any (A : Option Addr) (m c n x : Nat) (rows : List (List Int)) (w : World) (hm : rows.length = m) (hb : m ≤ 64) (hn : n ≤ 12) (hxn : x < n) (hls : ∀ i, i < m → (rows.getD i []).length = n) (hin : ∀ i j, i < m → j < n → 0 ≤ (rows.getD i []).getD j 0 ∧ (rows.getD i []).getD j 0 < (n : Int)) (hr : Rd2 w A rows) :
    Calls Tryd.prog 28 #[.slice A m c, .int .i64 x] w fun e w' => ∃ A' c' out, e = .returned (.slice A' out.length c') ∧ Below w.heap.size w w' ∧ Res 2 w.heap.size w' A' out ∧ OInv rows n x out out.length := by
  have HM := hide hm
  have HLS := hide hls
  have HIN := hide hin
  clear hm hls hin
  obtain ⟨i0, hi, hz0, hz1, hz2⟩ := info_parts orInfo
  have HST := hide (OInv.start rows n x hxn)
  go_enter Tryd.func28, Tryd.ntmps28
  go_wp2_with fail
  go_loopw [5, 6] (fun v i wr => ∃ (out : List Int) (j : Nat), i = .int .i64 j ∧ Below w.heap.size w wr ∧ w.heap.size ≤ wr.heap.size ∧ wr.ownsRow w.heap.size 2 1 v out.length (ints out) ∧ OInv rows n x out j) (fun _ i _ => n - (intOf i).toNat)
  case atStart => exact ⟨[(x : Int)], 0, rfl, (Below.refl _ _).alloc (Nat.le_refl _) _, by simp, own_one w _ _, HST.out⟩
  case round =>
    obtain ⟨out, j, rfl, hbe, hsz, hown, hinv⟩ := hrel
    have HB := hide hbe
    have HO := hide hown
    have HI := hide hinv
    have hjl := hinv.le
    have hmost := hinv.most
    obtain ⟨A5, c5, hv, hres⟩ := own_shape hown
    subst hv
    clear hbe hown hinv hres
    obtain ⟨L, hL⟩ : ∃ L, out.length = L := ⟨_, rfl⟩
    have HL := hide hL
    rw [hL] at hjl hmost ⊢
    clear hL
    by_cases hlt : j < L
    · have hltz : (j : Int) < L := by omega
      go_wp2_with fail
      obtain ⟨wo, rfl⟩ : ∃ wo : World, wo = wr := ⟨_, rfl⟩
      go_loopw [5, 7] (fun v k wi => ∃ (out : List Int) (q : Nat), q ≤ m ∧ k = .int .i64 q ∧ Below w.heap.size w wi ∧ w.heap.size ≤ wi.heap.size ∧ wi.ownsRow w.heap.size 2 1 v out.length (ints out) ∧ OInv rows n x out j ∧ j < out.length ∧ ∀ r, r < q → (rows.getD r []).getD (out.getD j 0).toNat 0 ∈ out) (fun _ k _ => m - (intOf k).toNat)
      case atStart => exact ⟨out, 0, Nat.zero_le _, rfl, HB.out, hsz, by rw [HL.out]; have := HO.out; rw [HL.out] at this; exact this, HI.out, by have := HL.out; omega, fun r hr => absurd hr (Nat.not_lt_zero _)⟩
      case round =>
        clear HO HB HI hsz hjl hmost hlt hltz HL
        obtain ⟨out, q, hq, rfl, hbe, hsz, hown, hinv, hjl, hall⟩ := hrel
        have HB := hide hbe
        have HO := hide hown
        have HI := hide hinv
        have HALL := hide hall
        have hmost := hinv.most
        obtain ⟨A5, c5, hv, hres⟩ := own_shape hown
        subst hv
        have HRD := hide hres.rd
        clear hbe hown hinv hres hall
        obtain ⟨L, hL⟩ : ∃ L, out.length = L := ⟨_, rfl⟩
        have HL := hide hL
        rw [hL] at hjl hmost ⊢
        clear hL
        by_cases hltq : q < m
        · have hltqz : (q : Int) < m := by omega
          have hjlz : (j : Int) < L := by omega
          obtain ⟨b, o, rfl, hbw, hc⟩ := hr (by have := HM.out; omega)
          obtain ⟨Aq, cq, hcell, hrq⟩ := hc q (by have := HM.out; omega)
          have hlq := HLS.out q hltq
          rw [hlq] at hcell
          have hcell' : wr.cell? ⟨b, o + q, none⟩ = some (.slice Aq n cq) := (HB.out.cell (p := ⟨b, o + q, none⟩) hbw).trans hcell
          obtain ⟨b2, o2, rfl, hbw2, hc2⟩ := HRD.out (by have := HL.out; omega)
          have hcj := hc2 j (by have := HL.out; omega)
          have hmem : out.getD j 0 ∈ out := by have : j < out.length := (by have := HL.out; omega); simp [this]
          have hrg := HI.out.rng _ hmem
          obtain ⟨y, hy⟩ := Int.eq_ofNat_of_zero_le hrg.1
          rw [hy] at hcj hrg
          have HY := hide hy
          have hyn : y < n := by have := hrg.2; omega
          obtain ⟨b3, o3, rfl, hbw3, hc3⟩ := hrq (by omega)
          have hcz : wr.cell? ⟨b3, o3 + y, none⟩ = some (.int .i64 ((rows.getD q []).getD y 0)) := (HB.out.cell (p := ⟨b3, o3 + y, none⟩) hbw3).trans (hc3 y (by omega))
          have hzr := HIN.out q y hltq hyn
          obtain ⟨z, hz⟩ : ∃ z, (rows.getD q []).getD y 0 = z := ⟨_, rfl⟩
          rw [hz] at hcz hzr
          have HZ := hide hz
          have HZR := hide hzr
          have hynz : (y : Int) < n := by omega
          clear hc hcell hlq hc2 hmem hy hrg hc3 hz hzr hrq
          by_cases hmz : z ∈ out
          · have HMZ := hide hmz
            clear hmz
            go_wp2_with fail
            go_quiet ((go_at_call 39; exact quiet_call (has_any _ _ _ out z true _ HL.out (by omega) HRD.out (by simp [HMZ.out]))))
            go_wp2_with fail
            go_roundw
            case rel =>
              refine ⟨out, q + 1, by omega, by go_num, HB.out.trans ((show Quiet wr (wr.drewN nq) from ⟨nq, rfl⟩).below w.heap.size), hsz, ?_, HI.out, by have := HL.out; omega, fun r hr => ?_⟩
              · have := HO.out; rw [HL.out] at this ⊢; exact this
              · by_cases e : r = q
                · subst e; rw [HY.out, Int.toNat_natCast, HZ.out]; exact HMZ.out
                · exact HALL.out r (by omega)
            case measure => simp [intOf]; omega
          · have HMZ := hide hmz
            clear hmz
            go_wp2_with fail
            go_quiet ((go_at_call 39; exact quiet_call (has_any _ _ _ out z false _ HL.out (by omega) HRD.out (by simp [HMZ.out]))))
            obtain ⟨w5, hw5⟩ : ∃ w5, wr.drewN nq = w5 := ⟨_, rfl⟩
            have h1' : w5.cell? ⟨b, o + q, none⟩ = some (.slice (some ⟨b3, o3, none⟩) n cq) := by subst hw5; exact hcell'
            have h2' : w5.cell? ⟨b2, o2 + j, none⟩ = some (.int .i64 y) := by subst hw5; exact hcj
            have h3' : w5.cell? ⟨b3, o3 + y, none⟩ = some (.int .i64 z) := by subst hw5; exact hcz
            have HO5 : Hid (w5.ownsRow w.heap.size 2 1 (.slice (some ⟨b2, o2, none⟩) L c5) L (ints out)) := hide (by subst hw5; have := HO.out; rw [HL.out] at this; exact this)
            have HB5 : Hid (Below w.heap.size w w5) := hide (by subst hw5; exact HB.out.trans ((show Quiet wr (wr.drewN nq) from ⟨nq, rfl⟩).below w.heap.size))
            have hs5 : w.heap.size ≤ w5.heap.size := by subst hw5; exact hsz
            rw [hw5]
            clear hcell' hcj hcz hw5 HO HRD
            go_wp2_with fail
            have hbk : w.heap.size ≤ w5.heap.size + 1 := by omega
            have hL1 : L + 1 ≤ maxLen := by unfold maxLen; omega
            have hL2 : (L + 1) * 8 ≤ 140737488355328 := by omega
            have hown5 := HO5.out
            go_region_law ((refine step_append_lies _ (by rfl) _ _ _ (by rfl) w.heap.size 2 i0 _ 1 8 Tryd.underlying26 hi hz0 hz1 hz2 rfl (by decide) (.slice (some ⟨b2, o2, none⟩) L c5) L (ints out) (by simp [Act.eval]) ((hown5.alloc _).drew) ⟨w5.heap.size, 0, none⟩ 1 1 [.int .i64 z] (by simp [Act.eval]) (by rfl) (World.news_of_block (cs := #[.int .i64 z]) (t := 2) (fr := (0, 0)) (heap_alloc_new w5 _)) (by simp [Value.oneCell']) (by decide) hL1 hL2 (by simp; omega) (w5.heap.size + 1) (by simp) ?_; intro gg cap w7 hown' hgrow _ _))
            all_goals (
              have HO' := hide hown'
              have HG := hide hgrow
              clear hown' hgrow
              go_wp2_with fail
              go_roundw
              case rel =>
                have hB7 : Below w.heap.size w w7 := (HB5.out.alloc hs5 _).grown (show (w5.alloc (.cells #[.int .i64 z] 2)).grownBy w7 _ from ⟨HG.out.os, HG.out.tape, HG.out.output, HG.out.size, HG.out.block⟩) (by simp; omega) (fun g hg => (HO5.out.alloc (.cells #[.int .i64 z] 2)).lt g hg |>.1)
                have hjl' : j < out.length := by have := HL.out; omega
                have e : ints out ++ [.int .i64 z] = ints (out ++ [z]) := by simp [ints]
                have hzz : z = (rows.getD q []).getD (out.getD j 0).toNat 0 := by rw [HY.out, Int.toNat_natCast, HZ.out]
                have eg : (out ++ [z]).getD j 0 = out.getD j 0 := by simp [List.getElem?_append, hjl']
                refine ⟨out ++ [z], q + 1, by omega, by go_num, hB7, by have := hB7.size; omega, ?_, HI.out.push hjl' (by have := HM.out; omega) z hzz HZR.out.1 HZR.out.2 HMZ.out, by simp; omega, fun r hr => ?_⟩
                · have h := HO'.out
                  rw [e] at h
                  rw [List.length_append, HL.out]
                  exact h
                · rw [eg]
                  by_cases e : r = q
                  · subst e; rw [← hzz]; simp
                  · exact List.mem_append_left _ (HALL.out r (by omega))
              case measure => simp [intOf]; omega)
        · have hqm : q = m := by omega
          subst hqm
          go_wp2_with fail
          go_roundw
          case rel =>
            refine ⟨out, j + 1, by go_num, HB.out, hsz, by have := HO.out; rw [HL.out] at this ⊢; exact this, HI.out.on (by have := HL.out; omega) (fun r hr => HALL.out r (by have := HM.out; omega))⟩
          case measure => simp [intOf]; omega
    · have hjL : j = L := by omega
      subst hjL
      go_wp2_with fail
      go_ret
      obtain ⟨A', c', hv, hres⟩ := own_shape HO.out
      refine ⟨A', c', out, ?_, HB.out, hres, by have := HI.out; rw [← HL.out] at this; exact this⟩
      rw [← hv, HL.out]
      rfl
end Go.Proofs.YtngfdkmiifpbgaaDoor
