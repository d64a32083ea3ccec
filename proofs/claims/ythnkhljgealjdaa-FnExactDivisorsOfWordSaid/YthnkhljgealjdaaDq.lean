import Derived.Test.YthnkhljgealjdaaDp
import Derived.Test.YthnkhljgealjdaaDo
import Derived.Test.YthnkhljgealjdaaDm
import Derived.Test.YthnkhljgealjdaaDe
import Derived.RangeFuncBound
import Derived.RangeFuncCalls
import Derived.Shelf.Abstract
import Derived.Shelf.Lay
import Derived.WalkKit
import Derived.OwnWalkIn
import Derived.TacticsInMore
import Derived.LoopNIn
import Derived.LoopIn
import Derived.RegionIn
import Derived.Maps.RangeWalk
import Derived.DeepKeys
import Derived.Deep.Cut
import Derived.Deep.DeepCutAuto
namespace Go.Proofs.Ythnkhljgealjdaa
open Go Go.RowKit
open Classical
set_option maxHeartbeats 1000000
/-! Normal words of a list that is closed under moves, in weakly ascending order. -/
section
variable {h1 h2 b1 b2 : Nat → Nat → Int} {n : Nat}
/-- No later one is less. -/
def WAsc (L : List (List Int)) : Prop := L.Pairwise fun a b => lessL b a = false
theorem lessL_asym {a b : List Int} (h : lessL a b = true) : lessL b a = false := by
  cases h2 : lessL b a with
  | false => rfl
  | true =>
    have := lessL_trans _ _ _ h h2
    rw [lessL_irr] at this
    cases this
theorem WAsc.at {L : List (List Int)} (h : WAsc L) {i j : Nat} (hij : i < j) (hj : j < L.length) : lessL (L.getD j []) (L.getD i []) = false := by
  have := List.pairwise_iff_getElem.1 h i j (by omega) hj hij
  simpa [hj, show i < L.length by omega] using this
theorem lessL_take : ∀ (k : Nat) (a b : List Int), a.length = b.length → lessL a b = true → lessL (b.take k) (a.take k) = false
  | 0, _, _, _, _ => by simp [lessL]
  | k + 1, [], [], _, h => by simp [lessL] at h
  | k + 1, [], _ :: _, hl, _ => by simp at hl
  | k + 1, _ :: _, [], hl, _ => by simp at hl
  | k + 1, x :: a, y :: b, hl, h => by
    simp only [List.take_succ_cons, lessL] at h ⊢
    by_cases e : x = y
    · subst e
      rw [if_pos rfl] at h ⊢
      exact lessL_take k a b (by simpa using hl) h
    · rw [if_neg e] at h
      rw [if_neg (fun e2 => e e2.symm)]
      have h3 : x < y := by simpa using h
      simp; omega
theorem WAsc.begins {L : List (List Int)} {m : Nat} (h : Asc L) (hl : ∀ p, p ∈ L → p.length = m) (k : Nat) : WAsc (L.map (List.take k)) := by
  refine List.pairwise_map.2 (List.Pairwise.imp_of_mem ?_ h)
  intro a b ha hb hab
  exact lessL_take k a b (by rw [hl a ha, hl b hb]) hab
/-- Each word of the list is led to from a first one. -/
theorem frs_cover (L : List (List Int)) : ∀ t, t ∈ L → ∃ z, z ∈ frs h1 h2 L ∧ Tch h1 h2 z t := by
  have key : ∀ (M : List (List Int)) (t : List Int), t ∈ M.reverse → ∃ z, z ∈ frs h1 h2 M.reverse ∧ Tch h1 h2 z t := by
    intro M
    induction M with
    | nil => intro t h; simp at h
    | cons a M ih =>
      intro t h
      rw [List.reverse_cons] at h ⊢
      by_cases hc : ∃ y, y ∈ frs h1 h2 M.reverse ∧ Tch h1 h2 y a
      · rw [frs_old hc]
        rcases List.mem_append.1 h with h | h
        · exact ih t h
        · obtain rfl : t = a := by simpa using h
          exact hc
      · rw [frs_new hc]
        rcases List.mem_append.1 h with h | h
        · obtain ⟨z, hz, hT⟩ := ih t h
          exact ⟨z, List.mem_append_left _ hz, hT⟩
        · obtain rfl : t = a := by simpa using h
          exact ⟨t, List.mem_append_right _ (by simp), .refl⟩
  intro t h
  have h2 := key L.reverse t (by rw [List.reverse_reverse]; exact h)
  rwa [List.reverse_reverse] at h2
/-- The first ones are the normal words of the list, each once, in order. -/
theorem frs_asc (hp : PB n h1 h2 b1 b2) {L : List (List Int)} (hw : WAsc L) (ht : ∀ t, t ∈ L → Tup n t) (hc : ∀ t, t ∈ L → ∀ y, Tch h1 h2 t y → y ∈ L) : ∀ i, i ≤ L.length → Asc (frs h1 h2 (L.take i)) ∧ ∀ t, t ∈ frs h1 h2 (L.take i) ↔ t ∈ L.take i ∧ IsNw h1 h2 t
  | 0, _ => ⟨by simp [frs, Asc], fun t => by simp [frs]⟩
  | i + 1, hi => by
    obtain ⟨ih1, ih2⟩ := frs_asc hp hw ht hc i (by omega)
    rw [take_next (show i < L.length by omega)]
    obtain ⟨t, hte⟩ : ∃ t, L.getD i [] = t := ⟨_, rfl⟩
    rw [hte]
    have htL : t ∈ L := by rw [← hte]; exact tgetD_mem L i [] (by omega)
    have hle : ∀ y, y ∈ L.take i → lessL t y = false := fun y hy => by
      obtain ⟨j, hj, e⟩ := List.getElem_of_mem hy
      have hji : j < i := by simp at hj; omega
      have h3 := hw.at (i := j) (j := i) hji (by omega)
      rw [hte] at h3
      have e2 : L.getD j [] = y := by
        rw [← e]
        simp [List.getD_eq_getElem?_getD, List.getElem?_eq_getElem (show j < L.length by omega)]
      rw [e2] at h3
      exact h3
    by_cases hcv : ∃ y, y ∈ frs h1 h2 (L.take i) ∧ Tch h1 h2 y t
    · rw [frs_old hcv]
      refine ⟨ih1, fun u => ?_⟩
      rw [ih2 u, List.mem_append]
      constructor
      · rintro ⟨a, b⟩; exact ⟨.inl a, b⟩
      · rintro ⟨a | a, b⟩
        · exact ⟨a, b⟩
        · obtain rfl : u = t := by simpa using a
          obtain ⟨y, hy, hT⟩ := hcv
          obtain ⟨hyt, hyn⟩ := (ih2 y).1 hy
          have h3 := hle y hyt
          have h4 := hyn u hT
          have h5 := b y (hT.symm hp (ht y (List.mem_of_mem_take hyt)))
          by_cases e : y = u
          · subst e; exact ⟨hyt, b⟩
          · rcases lessL_tri y u e with h6 | h6
            · rw [h6] at h5; cases h5
            · rw [h6] at h4; cases h4
    · rw [frs_new hcv]
      have hnw : IsNw h1 h2 t := fun y hT => by
        cases h3 : lessL y t with
        | false => rfl
        | true =>
          exfalso
          have hyL := hc t htL y hT
          obtain ⟨j, hj, e⟩ := List.getElem_of_mem hyL
          have e2 : L.getD j [] = y := by simp [hj, e]
          have hji : j < i := by
            rcases Nat.lt_trichotomy j i with h | h | h
            · exact h
            · subst h; rw [hte] at e2; subst e2; rw [lessL_irr] at h3; cases h3
            · have h4 := hw.at (i := i) (j := j) h hj
              rw [e2, hte, h3] at h4; cases h4
          have hyt : y ∈ L.take i := by
            rw [List.mem_iff_getElem]
            exact ⟨j, by simp; omega, by rw [List.getElem_take]; exact e⟩
          obtain ⟨z, hz, hzT⟩ := frs_cover (L.take i) y hyt
          exact hcv ⟨z, hz, hzT.trans (hT.symm hp (ht t htL))⟩
      have hno : t ∉ L.take i := fun h => hcv (frs_cover (L.take i) t h)
      refine ⟨List.pairwise_append.2 ⟨ih1, by simp, fun a ha b hb => ?_⟩, fun u => ?_⟩
      · obtain rfl : b = t := by simpa using hb
        obtain ⟨hat, _⟩ := (ih2 a).1 ha
        have h3 := hle a hat
        rcases lessL_tri a b (fun e => hno (e ▸ hat)) with h6 | h6
        · exact h6
        · rw [h6] at h3; cases h3
      · rw [List.mem_append, ih2 u, List.mem_append]
        constructor
        · rintro (⟨a, b⟩ | a)
          · exact ⟨.inl a, b⟩
          · obtain rfl : u = t := by simpa using a
            exact ⟨.inr (by simp), hnw⟩
        · rintro ⟨a | a, b⟩
          · exact .inl ⟨a, b⟩
          · exact .inr a
theorem frs_norm (hp : PB n h1 h2 b1 b2) {L : List (List Int)} (hw : WAsc L) (ht : ∀ t, t ∈ L → Tup n t) (hc : ∀ t, t ∈ L → ∀ y, Tch h1 h2 t y → y ∈ L) : Asc (frs h1 h2 L) ∧ ∀ t, t ∈ frs h1 h2 L ↔ t ∈ L ∧ IsNw h1 h2 t := by
  have h := frs_asc hp hw ht hc L.length (Nat.le_refl _)
  rwa [List.take_of_length_le (Nat.le_refl _)] at h
/-- The begins of the words of a class are closed under moves. -/
theorem begins_closed {x : List Int} {L : List (List Int)} (hL : Cls h1 h2 x L) (k : Nat) : ∀ t, t ∈ L.map (List.take k) → ∀ y, Tch h1 h2 t y → y ∈ L.map (List.take k) := by
  intro t ht y hT
  obtain ⟨p, hp, rfl⟩ := List.mem_map.1 ht
  have h3 := hT.front (p.drop k)
  rw [List.take_append_drop] at h3
  have hmem := (hL.2 _).2 (((hL.2 p).1 hp).trans h3)
  refine List.mem_map.2 ⟨_, hmem, ?_⟩
  have hl := hT.len
  rw [List.length_take] at hl
  by_cases h : k ≤ p.length
  · rw [List.take_append_of_le_length (by omega), List.take_of_length_le (by omega)]
  · have hd : p.drop k = [] := List.drop_eq_nil_of_le (by omega)
    rw [hd, List.append_nil, List.take_of_length_le (by omega)]
end
/-- The divisors with k letters of a word with a class. -/
noncomputable def dvK (f s : List (List Int)) (L : List (List Int)) (k : Nat) : List (List Int) := frs (leH f) (leH s) (L.map (List.take k))
/-- The divisors with fewer than k letters. -/
noncomputable def dvL (f s : List (List Int)) (L : List (List Int)) : Nat → List (List Int)
  | 0 => []
  | k + 1 => dvL f s L k ++ dvK f s L k
theorem dvK_len (f s L : List (List Int)) (k : Nat) : (dvK f s L k).length ≤ L.length := by
  have h := frs_len (h1 := leH f) (h2 := leH s) (L.map (List.take k))
  simpa [dvK] using h
theorem dvL_len (f s L : List (List Int)) : ∀ k, (dvL f s L k).length ≤ k * L.length
  | 0 => by simp [dvL]
  | k + 1 => by
    have h1 := dvL_len f s L k
    have h2 := dvK_len f s L k
    rw [dvL, List.length_append, Nat.succ_mul]
    omega
theorem dvK_row {f s L : List (List Int)} {k : Nat} {t : List Int} (h : t ∈ dvK f s L k) : t.length ≤ k := by
  obtain ⟨p, _, rfl⟩ := List.mem_map.1 (frs_sub _ _ h)
  rw [List.length_take]; omega
theorem dvL_row {f s L : List (List Int)} : ∀ {k : Nat} {t : List Int}, t ∈ dvL f s L k → t.length ≤ k
  | 0, t, h => by simp [dvL] at h
  | k + 1, t, h => by
    rw [dvL] at h
    rcases List.mem_append.1 h with h | h
    · have := dvL_row h; omega
    · have := dvK_row h; omega
/-- What the divisors of a word are told. -/
def DsR (f s : List (List Int)) (x : List Int) (zs : List (List Int)) (code : Int) : Prop := ∃ L, CowR f s x L code ∧ ((code = 0 ∧ zs = dvL f s L (x.length + 1)) ∨ (code ≠ 0 ∧ zs = []))
theorem DsR.ex (f s : List (List Int)) (x : List Int) : ∃ zs code, DsR f s x zs code ∧ zs.length ≤ 1048576 ∧ ∀ i, i < zs.length → (zs.getD i []).length ≤ 1048576 := by
  obtain ⟨L, code, h, h1, h2⟩ := CowR.ex f s x
  by_cases h0 : code = 0
  · subst h0
    obtain ⟨hw, _, _, hl⟩ := h.zero
    have h8 := (wrds1.1 (hw.zero rfl).2).1
    have hb := dvL_len f s L (x.length + 1)
    have hm : (x.length + 1) * L.length ≤ 9 * 1000 := Nat.mul_le_mul (by omega) hl
    refine ⟨_, 0, ⟨L, h, .inl ⟨rfl, rfl⟩⟩, by omega, fun i hi => ?_⟩
    have := dvL_row (tgetD_mem _ i [] hi)
    omega
  · exact ⟨[], code, ⟨L, h, .inr ⟨h0, rfl⟩⟩, by simp, by simp⟩
end Go.Proofs.Ythnkhljgealjdaa
namespace Go.Proofs.Ythnkhljgealjdaa
open Go Go.RowKit
open Classical
set_option maxHeartbeats 8000000
theorem Rd.sameB {w W : World} {A : Option Addr} {xs : List Int} (h : Rd w A xs) (hs : w.heap.size ≤ W.heap.size) (he : ∀ b, b < w.heap.size → W.heap[b]? = w.heap[b]?) : Rd W A xs := by
  intro h0
  obtain ⟨b, o, rfl, hb, hc⟩ := h h0
  exact ⟨b, o, rfl, by omega, fun i hi => (World.cell?_of_block (a := ⟨b, o + i, none⟩) (he b hb)).trans (hc i hi)⟩
theorem Rd2.sameB {w W : World} {A : Option Addr} {rows : List (List Int)} (h : Rd2 w A rows) (hs : w.heap.size ≤ W.heap.size) (he : ∀ b, b < w.heap.size → W.heap[b]? = w.heap[b]?) : Rd2 W A rows := by
  intro h0
  obtain ⟨b, o, rfl, hb, hc⟩ := h h0
  refine ⟨b, o, rfl, by omega, fun i hi => ?_⟩
  obtain ⟨Ai, ci, h1, h2⟩ := hc i hi
  exact ⟨Ai, ci, (World.cell?_of_block (a := ⟨b, o + i, none⟩) (he b hb)).trans h1, h2.sameB hs he⟩
/-- What a round over the orbits is told: the first tuple and the orbit. -/
def OrbT (f s : List (List Int)) (Ls : List (List Int)) (k L : Nat) (v : Array Value) (U : Nat → Prop) (W : World) : Prop :=
  ∃ bm C, v = #[tkey ((frs (leH f) (leH s) Ls).getD k []), .map (some bm)] ∧ U bm ∧ Cls (leH f) (leH s) ((frs (leH f) (leH s) Ls).getD k []) C ∧ MetN W bm C ∧ L < W.heap.size ∧ ∀ b, U b → b < W.heap.size
theorem KeepU.of_step {U : Nat → Prop} {L : Nat} {W W' : World} (h : StepL L W W') (hL : ¬ U L) : KeepU U W W' := ⟨h.size, fun b hb hu => h.same b hb (fun e => hL (e ▸ hu))⟩
theorem StepL.grown {L : Nat} {W W' V : World} (h : StepL L W W') (hg : W'.grownBy V (some L)) : StepL L W V :=
  ⟨hg.os.trans h.os, hg.tape.trans h.tape, hg.output.trans h.output, Nat.le_trans h.size hg.size, fun b hb hn => (hg.block b (Nat.lt_of_lt_of_le hb h.size) (fun e => hn (by cases e; rfl))).trans (h.same b hb hn)⟩
theorem StepL.grownNew {L r : Nat} {W W' V : World} (h : StepL L W W') (hg : W'.grownBy V (some r)) (hr : W.heap.size ≤ r) : StepL L W V :=
  ⟨hg.os.trans h.os, hg.tape.trans h.tape, hg.output.trans h.output, Nat.le_trans h.size hg.size, fun b hb hn => (hg.block b (Nat.lt_of_lt_of_le hb h.size) (fun e => by cases e; omega)).trans (h.same b hb hn)⟩
/-- The words to which words of a list lead. -/
def MetF (h1 h2 : Nat → Nat → Int) (R Fm : List (List Int)) : Prop := Fm.Nodup ∧ ∀ y, y ∈ Fm ↔ ∃ z, z ∈ R ∧ Tch h1 h2 z y
theorem MetF.nil (h1 h2 : Nat → Nat → Int) : MetF h1 h2 [] [] := ⟨List.nodup_nil, fun y => by simp⟩
theorem MetF.more {h1 h2 b1 b2 : Nat → Nat → Int} {n : Nat} (hp : PB n h1 h2 b1 b2) {R Fm C got : List (List Int)} {t : List Int} (h : MetF h1 h2 R Fm) (ht : Tup n t) (hC : Cls h1 h2 t C) (hno : t ∉ Fm) (hg : got.Nodup) (hall : ∀ y, y ∈ C ↔ y ∈ got) : MetF h1 h2 (R ++ [t]) (Fm ++ got) := by
  refine ⟨List.nodup_append.2 ⟨h.1, hg, fun a ha b hb e => ?_⟩, fun y => ?_⟩
  · subst e
    obtain ⟨z, hz, hT⟩ := (h.2 a).1 ha
    have h2 := (hC.2 a).1 ((hall a).2 hb)
    exact hno ((h.2 t).2 ⟨z, hz, hT.trans (h2.symm hp ht)⟩)
  · rw [List.mem_append, h.2, ← hall, hC.2]
    constructor
    · rintro (⟨z, hz, hT⟩ | hT)
      · exact ⟨z, List.mem_append_left _ hz, hT⟩
      · exact ⟨t, List.mem_append_right _ (by simp), hT⟩
    · rintro ⟨z, hz, hT⟩
      rcases List.mem_append.1 hz with hz | hz
      · exact .inl ⟨z, hz, hT⟩
      · obtain rfl : z = t := by simpa using hz
        exact .inr hT
theorem MetF.part {h1 h2 b1 b2 : Nat → Nat → Int} {n : Nat} (hp : PB n h1 h2 b1 b2) {R Fm C : List (List Int)} {t p : List Int} (h : MetF h1 h2 R Fm) (ht : Tup n t) (hC : Cls h1 h2 t C) (hno : t ∉ Fm) (hpC : p ∈ C) : p ∉ Fm := fun hpf => by
  obtain ⟨z, hz, hT⟩ := (h.2 p).1 hpf
  exact hno ((h.2 t).2 ⟨z, hz, hT.trans (((hC.2 p).1 hpC).symm hp ht)⟩)
set_option maxRecDepth 100000 in
theorem orbI_any (A : Option Addr) (n c : Nat) (f : List (List Int)) (B : Option Addr) (d : Nat) (s : List (List Int)) (K N g cg pl ps pk B0 : Nat) (Ls : List (List Int)) (U0 : Nat → Prop) (w00 w0 : World) (hz : ZArg 1048576 w00 A n f B n s) (hs : SolF f s) (hK : K ≤ 12) (hN : Ls.length = N) (hNb : N ≤ 5000) (hlk : ∀ t, t ∈ Ls → t.length = K) (htu : ∀ t, t ∈ Ls → Tup n t) (hcl : ∀ t, t ∈ Ls → ∀ y, Tch (leH f) (leH s) t y → y ∈ Ls)
    (hb00 : Below w00.heap.size w00 w0) (hU : ∀ b, b < w00.heap.size → U0 b) (hU2 : ∀ b, U0 b → b < w0.heap.size) (hUl : U0 pl) (hUs : U0 ps) (hUk : U0 pk) (hUg : U0 g) (hkl : Blk w0 pl 44 [.slice (some ⟨g, 0, none⟩) N cg]) (hks : Blk w0 ps 29 [.slice A n c, .slice B n d]) (hkk : Blk w0 pk 3 [.int .i64 K]) (hvl : TupS w0 B0 (.slice (some ⟨g, 0, none⟩) N cg) Ls) (mm : Nat) :
    IterN Try.prog mm 47 #[.pointer (some ⟨pl, 0, none⟩), .pointer (some ⟨ps, 0, none⟩), .pointer (some ⟨pk, 0, none⟩)] (frs (leH f) (leH s) Ls).length (OrbT f s Ls) U0 w0 := by
  intro l J Jx V0 hW hJ hY h0
  have h12 := (hz.small hs.1).2
  have HPB := hide (hs.pb hz.sz.fl)
  have HZ := hide hz
  have HS := hide hs
  have HN := hide hN
  have HLK := hide hlk
  have HTU := hide htu
  have HCLO := hide hcl
  have HJ := hide hJ
  have HY := hide hY
  have HU := hide hU
  have HKL := hide (hkl.later hW)
  have HKS := hide (hks.later hW)
  have HKK := hide (hkk.later hW)
  have HVL := hide (hvl.later hW)
  have HUL := hide hUl
  have HUS := hide hUs
  have HUK := hide hUk
  have HUG := hide hUg
  have H0 := hide (h0 V0.heap.size (Nat.le_refl _))
  have HU2 : Hid (∀ b, U0 b → b < V0.heap.size) := hide (fun b hb => Nat.lt_of_lt_of_le (hU2 b hb) hW.size)
  have HC : Hid (∀ b, b < w00.heap.size → V0.heap[b]? = w00.heap[b]?) := hide fun b hb => (hW.block b (Nat.lt_of_lt_of_le hb hb00.size)).trans (hb00.block b hb)
  have HS0 : Hid (w00.heap.size ≤ V0.heap.size) := hide (Nat.le_trans hb00.size hW.size)
  have hmm := @run_makeMap Try.prog
  clear hz hs hN hlk htu hcl hJ hY hU hU2 hkl hks hkk hvl hUl hUs hUk hUg h0 hb00 hW
  show Calls Try.prog 47 #[.func (.yield l) #[] #[], .pointer (some ⟨pl, 0, none⟩), .pointer (some ⟨ps, 0, none⟩), .pointer (some ⟨pk, 0, none⟩)] V0 _
  obtain ⟨bL, hbL⟩ : ∃ b, V0.heap.size = b := ⟨_, rfl⟩
  have HBL := hide hbL
  go_enter Try.func47, Try.ntmps47
  go_upto_region 1 with fail
  refine wp_gen fun w1 hw1 => ?_
  have hb1 : Below V0.heap.size V0 w1 := by rw [hw1]; exact (Below.refl _ _).alloc (Nat.le_refl _) _
  have HM1 : Hid (MetN w1 bL []) := hide (by
    rw [hw1, ← hbL]
    have h := MapN.made 46 V0
    exact h.congr (fun k => congrFun metV_nil k))
  have HKU1 : Hid (KeepU U0 V0 w1) := hide (KeepU.below hb1)
  have HJ1 : Hid (J 0 bL (fun b => U0 b ∨ b = bL) w1) := hide (HJ.out 0 bL U0 _ V0 w1 (by rw [← hbL]; exact H0.out) (StepL.of bL hb1) (fun b hb => by
    rcases hb with h | h
    · exact .inl h
    · exact .inr (by omega)))
  clear hw1 hb1 hbL H0 hmm
  have k0 := (HKL.out.cell 0 _ rfl)
  have k0' : w1.cell? ⟨pl, 0, none⟩ = some (.slice (some ⟨g, 0, none⟩) N cg) := (World.cell?_of_block (a := ⟨pl, 0, none⟩) (HKU1.out.2 pl HKL.out.lt HUL.out)).trans k0
  clear k0
  go_wp2_with fail
  clear k0'
  go_loopw [7, 8, 9, 10, 14] (fun _ _ _ _ iv wr => ∃ (i : Nat) (Fm : List (List Int)) (U : Nat → Prop), i ≤ N ∧ iv = .int .i64 i ∧ J (frs (leH f) (leH s) (Ls.take i)).length bL U wr ∧ (∀ b, U0 b → U b) ∧ U bL ∧ KeepU U0 V0 wr ∧ bL < wr.heap.size ∧ MetN wr bL Fm ∧ MetF (leH f) (leH s) (frs (leH f) (leH s) (Ls.take i)) Fm) (fun _ _ _ _ iv _ => N - (intOf iv).toNat)
  case atStart => exact ⟨0, [], _, Nat.zero_le _, rfl, HJ1.out, fun b hb => .inl hb, .inr rfl, HKU1.out, HM1.out.lt, HM1.out, MetF.nil _ _⟩
  case round =>
    obtain ⟨wx, rfl⟩ : ∃ x, x = wr := ⟨wr, rfl⟩
    obtain ⟨i, Fm, U, hi, rfl, hj, hu1, hu2, hku, hbs, hme, hmf⟩ := hrel
    have HJX := hide hj
    have HU1 := hide hu1
    have HU3 := hide hu2
    have HKU := hide hku
    have HME := hide hme
    have HMF := hide hmf
    clear HJ1 HKU1 HM1 hj hu1 hu2 hku hme hmf
    have HKLx : Hid (Blk wx pl 44 [.slice (some ⟨g, 0, none⟩) N cg]) := hide ((HKU.out.2 pl HKL.out.lt HUL.out).trans HKL.out)
    have HKSx : Hid (Blk wx ps 29 [.slice A n c, .slice B n d]) := hide ((HKU.out.2 ps HKS.out.lt HUS.out).trans HKS.out)
    have HKKx : Hid (Blk wx pk 3 [.int .i64 K]) := hide ((HKU.out.2 pk HKK.out.lt HUK.out).trans HKK.out)
    have HZx : Hid (ZArg 1048576 wx A n f B n s) := hide (by
      have hsz : w00.heap.size ≤ wx.heap.size := Nat.le_trans HS0.out HKU.out.1
      have he : ∀ b, b < w00.heap.size → wx.heap[b]? = w00.heap[b]? := fun b hb => (HKU.out.2 b (Nat.lt_of_lt_of_le hb HS0.out) (HU.out b hb)).trans (HC.out b hb)
      exact ⟨HZ.out.sz, HZ.out.fst.sameB hsz he, HZ.out.snd.sameB hsz he⟩)
    by_cases hlt : i < N
    · have hiz : (i : Int) < N := by omega
      have hiL : i < Ls.length := by rw [HN.out]; exact hlt
      have hlen : ∀ t, t ∈ Ls → t.length ≤ 12 := fun t ht => by rw [HLK.out t ht]; exact hK
      obtain ⟨g', cg', hv', _, _, _, hgl, hcl⟩ := HVL.out.at hlen hiL
      injection hv' with hv1 hv2 hv3
      injection hv1 with hv1
      injection hv1 with hv1
      subst hv1
      clear hv2 hv3
      obtain ⟨t, ht⟩ : ∃ t, Ls.getD i [] = t := ⟨_, rfl⟩
      rw [ht] at hcl
      have htm : t ∈ Ls := by rw [← ht]; exact tgetD_mem _ i [] hiL
      have HTM := hide htm
      have HTK : Hid (Ls.take (i + 1) = Ls.take i ++ [t]) := hide (by rw [take_next hiL, ht])
      have htl := HLK.out t htm
      have HTL := hide htl
      have htp := pad12_length (xs := t) (by omega)
      obtain ⟨tp, htpe⟩ : ∃ tp, pad12 t = tp := ⟨_, rfl⟩
      rw [htpe] at htp hcl
      obtain ⟨t0, t1, t2, t3, t4, t5, t6, t7, t8, t9, t10, t11, rfl⟩ := list12 htp
      have hkt : tkey t = .agg #[.int .i64 t0, .int .i64 t1, .int .i64 t2, .int .i64 t3, .int .i64 t4, .int .i64 t5, .int .i64 t6, .int .i64 t7, .int .i64 t8, .int .i64 t9, .int .i64 t10, .int .i64 t11] := by unfold tkey; rw [htpe]; rfl
      have HKT := hide hkt
      have hgx : ∀ o, wx.cell? ⟨g, o, none⟩ = V0.cell? ⟨g, o, none⟩ := fun o => World.cell?_of_block (a := ⟨g, o, none⟩) (HKU.out.2 g hgl HUG.out)
      have kc0 : wx.cell? ⟨g, i * 12 + 0, none⟩ = some (.int .i64 t0) := (hgx _).trans (hcl 0 (by omega))
      have kc1 : wx.cell? ⟨g, i * 12 + 1, none⟩ = some (.int .i64 t1) := (hgx _).trans (hcl 1 (by omega))
      have kc2 : wx.cell? ⟨g, i * 12 + 2, none⟩ = some (.int .i64 t2) := (hgx _).trans (hcl 2 (by omega))
      have kc3 : wx.cell? ⟨g, i * 12 + 3, none⟩ = some (.int .i64 t3) := (hgx _).trans (hcl 3 (by omega))
      have kc4 : wx.cell? ⟨g, i * 12 + 4, none⟩ = some (.int .i64 t4) := (hgx _).trans (hcl 4 (by omega))
      have kc5 : wx.cell? ⟨g, i * 12 + 5, none⟩ = some (.int .i64 t5) := (hgx _).trans (hcl 5 (by omega))
      have kc6 : wx.cell? ⟨g, i * 12 + 6, none⟩ = some (.int .i64 t6) := (hgx _).trans (hcl 6 (by omega))
      have kc7 : wx.cell? ⟨g, i * 12 + 7, none⟩ = some (.int .i64 t7) := (hgx _).trans (hcl 7 (by omega))
      have kc8 : wx.cell? ⟨g, i * 12 + 8, none⟩ = some (.int .i64 t8) := (hgx _).trans (hcl 8 (by omega))
      have kc9 : wx.cell? ⟨g, i * 12 + 9, none⟩ = some (.int .i64 t9) := (hgx _).trans (hcl 9 (by omega))
      have kc10 : wx.cell? ⟨g, i * 12 + 10, none⟩ = some (.int .i64 t10) := (hgx _).trans (hcl 10 (by omega))
      have kc11 : wx.cell? ⟨g, i * 12 + 11, none⟩ = some (.int .i64 t11) := (hgx _).trans (hcl 11 (by omega))
      rw [Nat.add_zero] at kc0
      clear htp htpe hcl hgx ht htm htl hkt hlen
      go_upto_region 4 with fail
      refine wp_gen fun wa hwa => ?_
      obtain ⟨tb, htb⟩ : ∃ tb, wx.heap.size = tb := ⟨_, rfl⟩
      have hba : Below wx.heap.size wx wa := by rw [hwa]; exact (Below.refl _ _).alloc (Nat.le_refl _) _
      have HTB : Hid (Blk wa tb 46 [.int .i64 t0, .int .i64 t1, .int .i64 t2, .int .i64 t3, .int .i64 t4, .int .i64 t5, .int .i64 t6, .int .i64 t7, .int .i64 t8, .int .i64 t9, .int .i64 t10, .int .i64 t11]) := hide (by rw [hwa, ← htb]; exact Blk.new _ _ _)
      have HBa := hide hba
      have HMa := hide (HME.out.later hba)
      have hbl : bL < tb := by omega
      rw [htb]
      clear hwa hba kc0 kc1 kc2 kc3 kc4 kc5 kc6 kc7 kc8 kc9 kc10 kc11
      obtain ⟨kl, hkl⟩ := tkey_ex ((HTU.out t HTM.out).sm h12)
      have hfm : ∀ p, p ∈ Fm → p.length = K := fun p hp => by
        obtain ⟨z, hz, hT⟩ := (HMF.out.2 p).1 hp
        rw [hT.len]
        exact HLK.out z (List.mem_of_mem_take (frs_sub _ z hz))
      have hlook := MapN.look1 tk_keyed HMa.out Try.underlying52 (z := .bool false) (by kernel_rfl) hkl
      rw [metV_at hfm HTL.out, HKT.out] at hlook
      have HFM := hide hfm
      clear hfm hkl htb
      have kt0 := HTB.out.cell 0 _ rfl
      have kt1 := HTB.out.cell 1 _ rfl
      have kt2 := HTB.out.cell 2 _ rfl
      have kt3 := HTB.out.cell 3 _ rfl
      have kt4 := HTB.out.cell 4 _ rfl
      have kt5 := HTB.out.cell 5 _ rfl
      have kt6 := HTB.out.cell 6 _ rfl
      have kt7 := HTB.out.cell 7 _ rfl
      have kt8 := HTB.out.cell 8 _ rfl
      have kt9 := HTB.out.cell 9 _ rfl
      have kt10 := HTB.out.cell 10 _ rfl
      have kt11 := HTB.out.cell 11 _ rfl
      by_cases hin : t ∈ Fm
      · have HIN := hide hin
        rw [decide_eq_true hin] at hlook
        have hfr : frs (leH f) (leH s) (Ls.take (i + 1)) = frs (leH f) (leH s) (Ls.take i) := by
          rw [HTK.out, frs_old]
          exact (HMF.out.2 t).1 hin
        have HFR := hide hfr
        have HJn : Hid (J (frs (leH f) (leH s) (Ls.take i)).length bL U wa) := hide (HJ.out _ bL U U wx wa HJX.out (StepL.of bL HBa.out) (fun b hb => .inl hb))
        have HKn := hide (HKU.out.trans (KeepU.below HBa.out))
        have hsa := HMa.out.lt
        clear hin hfr
        go_wp2_with fail
        go_roundw
        case rel => exact ⟨i + 1, Fm, U, by omega, by go_num, by rw [HFR.out]; exact HJn.out, HU1.out, HU3.out, HKn.out, hsa, HMa.out, by rw [HFR.out]; exact HMF.out⟩
        case measure => simp [intOf]; omega
      · have HIN := hide hin
        rw [decide_eq_false hin] at hlook
        have hfr : frs (leH f) (leH s) (Ls.take (i + 1)) = frs (leH f) (leH s) (Ls.take i) ++ [t] := by
          rw [HTK.out, frs_new]
          exact fun h => hin ((HMF.out.2 t).2 h)
        have HFR := hide hfr
        have HFEW : Hid (FewT (leH f) (leH s) t N) := hide (by
          obtain ⟨C, hC⟩ := Cls.ex HPB.out (HTU.out t HTM.out)
          refine ⟨C, hC, ?_⟩
          have h := tnodup_le hC.1 (fun y hy => HCLO.out t HTM.out y ((hC.2 y).1 hy))
          rw [HN.out] at h
          exact h)
        have kl0 := (HKLx.out.later HBa.out).cell 0 _ rfl
        have ks0 := (HKSx.out.later HBa.out).cell 0 _ rfl
        have ks1 := (HKSx.out.later HBa.out).cell 1 _ rfl
        have kk0 := (HKKx.out.later HBa.out).cell 0 _ rfl
        clear hin hfr
        go_wp2_with fail
        have hcall := orbitOf_yes A n c f B d s t K N wa (HZx.out.later HBa.out) HS.out (HTU.out t HTM.out) HTL.out (by omega) hNb HFEW.out
        rw [HKT.out] at hcall
        refine hcall.mono ?_
        clear hcall kl0 ks0 ks1 kk0 kt0 kt1 kt2 kt3 kt4 kt5 kt6 kt7 kt8 kt9 kt10 kt11 hlook
        rintro e w3 ⟨C, bm, hC, hCl, rfl, hb3, hbm, hmet⟩
        have hsa : wx.heap.size ≤ wa.heap.size := HBa.out.size
        have hba3 : bL < wa.heap.size := HMa.out.lt
        have htb3 := HTB.out.lt
        have HBx3 := hide (HBa.out.trans (hb3.mono hsa))
        have HTB3 := hide (HTB.out.later hb3)
        have HM3 := hide (HMa.out.later hb3)
        have HCC := hide hC
        have HMET := hide hmet
        have hbm3 := hmet.lt
        obtain ⟨w4, cnt0, hrun, hR4, hg4, hs4⟩ := MetN.range hmet Try.underlying52
        have hb4 : Below w3.heap.size w3 w4 := (Below.refl _ w3).grown hg4 (Nat.le_refl _) (fun g hg => by cases hg)
        have hs3 : wa.heap.size ≤ w3.heap.size := hb3.size
        have HBx4 := hide (HBx3.out.trans (hb4.mono (by omega)))
        have HTB4 := hide (HTB3.out.later hb4)
        have HM4 := hide (HM3.out.later hb4)
        have HE4 : Hid (w4.heap[bm]? = w3.heap[bm]?) := hide (hb4.block bm hbm3)
        obtain ⟨r, hr⟩ : ∃ r, w3.heap.size = r := ⟨_, rfl⟩
        rw [hr] at hrun hR4
        have HR4 := hide hR4
        have hrx : wx.heap.size ≤ r := by omega
        have hrb : bL < r := by omega
        have hrt : tb < r := by omega
        have hrm : bm < r := by omega
        clear hC hb3 hmet hR4 hg4 hs4 hb4 hr HBx3 HTB3 HM3 HBa HMa HTB
        go_wp2_with fail
        clear hrun
        have HLM : Hid (∀ p, p ∈ C → p.length = K) := hide (fun p hp => by rw [((HCC.out.2 p).1 hp).len]; exact HTL.out)
        have HSM : Hid (∀ p, p ∈ C → Sm p) := hide (fun p hp => (((HCC.out.2 p).1 hp).tup HPB.out (HTU.out t HTM.out)).sm h12)
        go_loopw [10] (fun _ wi => ∃ (got : List (List Int)) (cnt : Nat), StepL bL wx wi ∧ Blk wi tb 46 [.int .i64 t0, .int .i64 t1, .int .i64 t2, .int .i64 t3, .int .i64 t4, .int .i64 t5, .int .i64 t6, .int .i64 t7, .int .i64 t8, .int .i64 t9, .int .i64 t10, .int .i64 t11] ∧ wi.heap[bm]? = w3.heap[bm]? ∧ MetR wi bm r C got cnt ∧ MetN wi bL (Fm ++ got)) (fun _ wi => wi.rangeLeft bm r)
        case atStart => exact ⟨[], cnt0, StepL.of bL HBx4.out, HTB4.out, HE4.out, HR4.out, by rw [List.append_nil]; exact HM4.out⟩
        case round =>
          obtain ⟨wi, rfl⟩ : ∃ x, x = wr := ⟨wr, rfl⟩
          obtain ⟨got, cnt, hst, htb, heb, hmr, hmn⟩ := hrel
          clear HBx4 HTB4 HE4 HR4 HM4
          have HST := hide hst
          have HTB := hide htb
          have HEB := hide heb
          have HMN := hide hmn
          have hleft := hmr.left_eq
          have hgn : got.Nodup := by obtain ⟨_, _, _, _, h, _⟩ := hmr; exact h
          have hgs : ∀ y, y ∈ got → y ∈ C := by obtain ⟨_, _, _, _, _, h, _⟩ := hmr; exact h
          have HGN := hide hgn
          have HGS := hide hgs
          have HMR := hide hmr
          rcases hmr.next HLM.out HSM.out 0 with ⟨hall, hnx⟩ | ⟨p, v, w5, cnt3, hp, hpg, hnx, hr5, hlt5, hg5, hs5, hen⟩
          · have HALL := hide hall
            obtain ⟨R, hR⟩ := frs_take (h1 := leH f) (h2 := leH s) (L := Ls) (i + 1) (by rw [HN.out]; omega)
            rw [HFR.out] at hR
            obtain ⟨k, hk⟩ : ∃ k, (frs (leH f) (leH s) (Ls.take i)).length = k := ⟨_, rfl⟩
            have hkN : k < (frs (leH f) (leH s) Ls).length := by rw [hR, ← hk]; simp
            have hkt : (frs (leH f) (leH s) Ls).getD k [] = t := by
              rw [hR, ← hk, List.append_assoc]
              simp [List.getD_eq_getElem?_getD]
            have hmb : MetN wi bm C := MapN.of_block HMET.out HEB.out
            have hjw : J k bL (fun b => U0 b ∨ b = bL ∨ b = bm) wi := by
              rw [← hk]
              exact HJ.out _ bL U _ wx wi HJX.out HST.out (fun b hb => by
                rcases hb with h | h | h
                · exact .inl (HU1.out b h)
                · subst h; exact .inl HU3.out
                · exact .inr (by omega))
            have hyy := HY.out k bL #[tkey t, .map (some bm)] _ wi hkN hjw ⟨bm, C, by rw [hkt], .inr (.inr rfl), by rw [hkt]; exact HCC.out, hmb, HMN.out.lt, fun b hb => by
              rcases hb with h | h | h
              · exact Nat.lt_of_lt_of_le (HU2.out b h) (Nat.le_trans HKU.out.1 HST.out.size)
              · subst h; exact HMN.out.lt
              · subst h; exact hmb.lt⟩
            rw [HKT.out] at hyy
            obtain ⟨fn, tmps, assign, body, hy, hRR⟩ := hyy
            have HRR := hide hRR
            have HKE := hide hk
            have HMF2 := hide (HMF.out.more HPB.out (HTU.out t HTM.out) HCC.out HIN.out HGN.out HALL.out)
            have HKW : Hid (KeepU U0 V0 wi) := hide (HKU.out.trans (KeepU.of_step HST.out (fun h => by have h1 := HU2.out _ h; have h2 := HBL.out; omega)))
            have kt0 := HTB.out.cell 0 _ rfl
            have kt1 := HTB.out.cell 1 _ rfl
            have kt2 := HTB.out.cell 2 _ rfl
            have kt3 := HTB.out.cell 3 _ rfl
            have kt4 := HTB.out.cell 4 _ rfl
            have kt5 := HTB.out.cell 5 _ rfl
            have kt6 := HTB.out.cell 6 _ rfl
            have kt7 := HTB.out.cell 7 _ rfl
            have kt8 := HTB.out.cell 8 _ rfl
            have kt9 := HTB.out.cell 9 _ rfl
            have kt10 := HTB.out.cell 10 _ rfl
            have kt11 := HTB.out.cell 11 _ rfl
            clear hst htb heb hmr hmn hgn hgs hR hk hkN hkt hmb hjw hRR hall
            go_upto_region 10 with fail
            refine (wpIn_wide (n := mm + 1)).1 ?_
            gi_wp2
            refine HRR.out.mono ?_
            clear kt0 kt1 kt2 kt3 kt4 kt5 kt6 kt7 kt8 kt9 kt10 kt11 HRR
            rintro e W3 (⟨rfl, hj3, hku3⟩ | ⟨rfl, hjx⟩)
            · have HJ3 := hide hj3
              have HKn := hide (HKW.out.trans (hku3.less (U' := U0) (fun b hb => .inl (.inl hb))))
              have hbn := HMN.out.lt
              have hb3 : bL < W3.heap.size := Nat.lt_of_lt_of_le hbn hku3.1
              have HMn : Hid (MetN W3 bL (Fm ++ got)) := hide (MapN.of_block HMN.out (hku3.2 bL hbn (.inr (.inl rfl))))
              clear hj3 hku3
              gi_wp2
              go_wp2_with fail
              go_roundw
              case rel =>
                refine ⟨i + 1, Fm ++ got, fun b => U0 b ∨ b = bL ∨ b = bm, by omega, by go_num, ?_, fun b hb => .inl hb, .inr (.inl rfl), HKn.out, hb3, HMn.out, by rw [HFR.out]; exact HMF2.out⟩
                rw [HFR.out, List.length_append, HKE.out]
                exact HJ3.out
              case measure => simp [intOf]; omega
            · gi_wp2
              go_wp2_with fail
              refine bodyPost_ret (results_none rfl _ _ _) rfl ?_
              refine ⟨⟨_, rfl⟩, .inr ⟨_, bL, _, ?_, hjx⟩⟩
              obtain ⟨R, hR⟩ := frs_take (h1 := leH f) (h2 := leH s) (L := Ls) (i + 1) (by rw [HN.out]; omega)
              rw [HFR.out] at hR
              rw [hR, ← HKE.out]
              simp
          · have hpF := HMF.out.part HPB.out (HTU.out t HTM.out) HCC.out HIN.out hp
            have hpl := HLM.out p hp
            have hpp := pad12_length (xs := p) (by rw [hpl]; exact hK)
            obtain ⟨pp, hppe⟩ : ∃ pp, pad12 p = pp := ⟨_, rfl⟩
            rw [hppe] at hpp
            obtain ⟨p0, p1, p2, p3, p4, p5, p6, p7, p8, p9, p10, p11, rfl⟩ := list12 hpp
            have hkp : tkey p = .agg #[.int .i64 p0, .int .i64 p1, .int .i64 p2, .int .i64 p3, .int .i64 p4, .int .i64 p5, .int .i64 p6, .int .i64 p7, .int .i64 p8, .int .i64 p9, .int .i64 p10, .int .i64 p11] := by unfold tkey; rw [hppe]; rfl
            rw [hkp] at hnx hen
            have hnoF : p ∉ Fm ++ got := fun h => by
              rcases List.mem_append.1 h with h | h
              · exact hpF h
              · exact hpg h
            obtain ⟨kl2, hkl2⟩ := tkey_ex (HSM.out p hp)
            have HST5 := hide (HST.out.grownNew hg5 hrx)
            have hlb := HMN.out.lt
            have HTB5 : Hid (Blk w5 tb 46 [.int .i64 t0, .int .i64 t1, .int .i64 t2, .int .i64 t3, .int .i64 t4, .int .i64 t5, .int .i64 t6, .int .i64 t7, .int .i64 t8, .int .i64 t9, .int .i64 t10, .int .i64 t11]) := hide ((hg5.block tb HTB.out.lt (fun e => by cases e; omega)).trans HTB.out)
            have HEB5 : Hid (w5.heap[bm]? = w3.heap[bm]?) := hide ((hg5.block bm HMR.out.ltb (fun e => by cases e; omega)).trans HEB.out)
            have HMN5 : Hid (MetN w5 bL (Fm ++ got)) := hide (MapN.of_block HMN.out (hg5.block bL hlb (fun e => by cases e; omega)))
            have HR5 := hide hr5
            have HKP := hide hkp
            have HPL := hide hpl
            have HP := hide hp
            have HPG := hide hpg
            have HNF := hide hnoF
            have HKL2 := hide hkl2
            clear hst htb heb hmr hmn hgn hgs hpl hpp hppe hkp hp hpg hpF hnoF hkl2 hr5 hg5 hs5 HST HTB HEB HMN HMR
            go_upto_region 9 with fail
            refine wp_gen fun w6 hw6 => ?_
            obtain ⟨pb, hpb⟩ : ∃ pb, w5.heap.size = pb := ⟨_, rfl⟩
            have hb6 : Below w5.heap.size w5 w6 := by rw [hw6]; exact (Below.refl _ _).alloc (Nat.le_refl _) _
            have HPB6 : Hid (Blk w6 pb 46 [.int .i64 p0, .int .i64 p1, .int .i64 p2, .int .i64 p3, .int .i64 p4, .int .i64 p5, .int .i64 p6, .int .i64 p7, .int .i64 p8, .int .i64 p9, .int .i64 p10, .int .i64 p11]) := hide (by rw [hw6, ← hpb]; exact Blk.new _ _ _)
            rw [hpb]
            have HST6 := hide (HST5.out.trans (StepL.of bL hb6))
            have HTB6 := hide (HTB5.out.later hb6)
            have HEB6 : Hid (w6.heap[bm]? = w3.heap[bm]?) := hide ((hb6.block bm HR5.out.ltb).trans HEB5.out)
            have HMN6 := hide (HMN5.out.later hb6)
            have HR6 := hide (HR5.out.later hb6)
            clear hw6 hb6 hpb hnx hen HST5 HTB5 HEB5 HMN5 HR5
            have hfm2 : ∀ q, q ∈ Fm ++ got → q.length = K := fun q hq => by
              rcases List.mem_append.1 hq with h | h
              · exact HFM.out q h
              · exact HLM.out q (HGS.out q h)
            have hfl : (Fm ++ got).length < maxLen := by
              have h1 := tnodup_le HMF.out.1 (fun y hy => by
                obtain ⟨z, hz, hT⟩ := (HMF.out.2 y).1 hy
                exact HCLO.out z (List.mem_of_mem_take (frs_sub _ z hz)) y hT)
              have h2 := tnodup_le HGN.out HGS.out
              rw [HN.out] at h1
              rw [List.length_append]
              unfold maxLen
              omega
            obtain ⟨w7, hup, hm7, hg7⟩ := MapN.add tk_keyed HMN6.out Try.underlying52 (z := .bool false) (by kernel_rfl) hfl HKL2.out (metV_none hfm2 HPL.out HNF.out) (.bool true)
            rw [HKP.out] at hup
            have HST7 := hide (HST6.out.grown hg7)
            have HTB7 : Hid (Blk w7 tb 46 [.int .i64 t0, .int .i64 t1, .int .i64 t2, .int .i64 t3, .int .i64 t4, .int .i64 t5, .int .i64 t6, .int .i64 t7, .int .i64 t8, .int .i64 t9, .int .i64 t10, .int .i64 t11]) := hide ((hg7.block tb HTB6.out.lt (fun e => by cases e; omega)).trans HTB6.out)
            have HEB7 : Hid (w7.heap[bm]? = w3.heap[bm]?) := hide ((hg7.block bm HR6.out.ltb (fun e => by cases e; omega)).trans HEB6.out)
            have HR7 : Hid (MetR w7 bm r C (got ++ [p]) cnt3) := hide (HR6.out.of_blocks (hg7.block bm HR6.out.ltb (fun e => by cases e; omega)) (hg7.block r HR6.out.ltr (fun e => by cases e; omega)))
            have HMN7 : Hid (MetN w7 bL (Fm ++ (got ++ [p]))) := hide (by
              rw [← List.append_assoc]
              unfold MetN
              rw [List.length_append]
              exact hm7.congr (fun k => metV_add (Fm ++ got) p k))
            have hlt7 : cnt3 < cnt := hlt5
            clear hm7 hg7 hfm2 hfl HST6 HTB6 HEB6 HMN6 HR6
            have kp0 := HPB6.out.cell 0 _ rfl
            have kp1 := HPB6.out.cell 1 _ rfl
            have kp2 := HPB6.out.cell 2 _ rfl
            have kp3 := HPB6.out.cell 3 _ rfl
            have kp4 := HPB6.out.cell 4 _ rfl
            have kp5 := HPB6.out.cell 5 _ rfl
            have kp6 := HPB6.out.cell 6 _ rfl
            have kp7 := HPB6.out.cell 7 _ rfl
            have kp8 := HPB6.out.cell 8 _ rfl
            have kp9 := HPB6.out.cell 9 _ rfl
            have kp10 := HPB6.out.cell 10 _ rfl
            have kp11 := HPB6.out.cell 11 _ rfl
            go_wp2_with fail
            go_roundw
            case rel => exact ⟨got ++ [p], cnt3, HST7.out, HTB7.out, HEB7.out, HR7.out, HMN7.out⟩
            case measure => rw [HR7.out.left_eq]; omega
    · have hiN : i = N := by omega
      have hiz : ¬ (i : Int) < N := by omega
      have hall : Ls.take i = Ls := List.take_of_length_le (by rw [HN.out]; omega)
      rw [hall] at HJX
      clear HMF
      go_wp2_with fail
      go_end0
      exact ⟨⟨_, rfl⟩, .inl ⟨_, _, HJX.out⟩⟩
end Go.Proofs.Ythnkhljgealjdaa
