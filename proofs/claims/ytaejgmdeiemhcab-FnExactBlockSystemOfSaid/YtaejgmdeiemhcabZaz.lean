import Derived.Test.YtaejgmdeiemhcabZz
import Derived.Test.YtaejgmdeiemhcabZaa
import Derived.Test.YtaejgmdeiemhcabZab
import Derived.Test.YtaejgmdeiemhcabZl
import Derived.Test.YtaejgmdeiemhcabZe
import Derived.Test.YtaejgmdeiemhcabZac
import Derived.Test.YtaejgmdeiemhcabZas
import Derived.Test.YtaejgmdeiemhcabZaq
import Derived.Test.YtaejgmdeiemhcabZf
import Derived.Test.YtaejgmdeiemhcabZy
import Derived.Test.YtaejgmdeiemhcabZg
namespace Go.Proofs.Ytaejgmdeiemhcab
open Go Go.RowKit
open Classical
/-! The least block system: what repeated joining of a specification finds. -/
structure BlS (mp : Nat → Nat → Nat) (K n x y : Nat) (L : List Int) : Prop where
  len : L.length = n
  snd : ∀ a b, a < n → b < n → lb L a = lb L b → MgE mp K x y a b
  st : lb L x = lb L y
  rng : ∀ v ∈ L, 0 ≤ v ∧ v < (n : Int)
/-- The pair a, b asks for nothing. -/
def Cl1 (mp : Nat → Nat → Nat) (K : Nat) (L : List Int) (a b : Nat) : Prop := lb L a = lb L b → ∀ k, k < K → lb L (mp k a) = lb L (mp k b)
/-- How a pass stands that began with L0. -/
def Pas (n : Nat) (L0 : List Int) (mo : Bool) (L : List Int) (cl : Prop) : Prop := (mo = false ∧ L = L0 ∧ cl) ∨ (mo = true ∧ cgCnt n L < cgCnt n L0)
section
variable {mp : Nat → Nat → Nat} {K n x y : Nat} {L L0 : List Int} {mo : Bool} {cl cl' : Prop}
theorem Pas.imp (h : Pas n L0 mo L cl) (hc : L = L0 → cl → cl') : Pas n L0 mo L cl' := by
  rcases h with ⟨h1, h2, h3⟩ | h
  · exact .inl ⟨h1, h2, hc h2 h3⟩
  · exact .inr h
theorem Pas.le (h : Pas n L0 mo L cl) : cgCnt n L ≤ cgCnt n L0 := by
  rcases h with ⟨_, rfl, _⟩ | ⟨_, h⟩
  · exact Nat.le_refl _
  · exact Nat.le_of_lt h
theorem unitN_lb {a : Nat} (h : a < n) : lb (unitN n) a = (a : Int) := by simp [lb, unitN, h]
theorem bl_first {a : Nat} (h : a < n) : lb ((unitN n).set y (x : Int)) a = if a = y then (x : Int) else (a : Int) := by
  unfold lb
  by_cases e : a = y
  · subst e
    rw [if_pos rfl]
    simp [unitN_length, h]
  · rw [if_neg e]
    have h2 := unitN_lb (n := n) h
    unfold lb at h2
    rw [← h2, List.getD_eq_getElem?_getD, List.getD_eq_getElem?_getD, List.getElem?_set_ne (fun h => e h.symm)]
theorem BlS.start (hx : x < n) (hy : y < n) : BlS mp K n x y ((unitN n).set y (x : Int)) where
  len := by rw [List.length_set, unitN_length]
  snd := fun a b ha hb e => by
    rw [bl_first ha, bl_first hb] at e
    by_cases h1 : a = y
    · rw [if_pos h1] at e
      by_cases h2 : b = y
      · rw [h1, h2]; exact .refl _
      · rw [if_neg h2] at e
        rw [h1, show b = x by omega]
        exact .symm .base
    · rw [if_neg h1] at e
      by_cases h2 : b = y
      · rw [if_pos h2] at e
        rw [h2, show a = x by omega]
        exact .base
      · rw [if_neg h2] at e
        rw [show a = b by omega]
        exact .refl _
  st := by
    rw [bl_first hx, bl_first hy, if_pos rfl]
    by_cases h : x = y
    · rw [if_pos h]
    · rw [if_neg h]
  rng := fun v hv => by
    rcases List.mem_or_eq_of_mem_set hv with h1 | h1
    · obtain ⟨a, ha, rfl⟩ := List.mem_map.1 h1
      have := List.mem_range.1 ha
      omega
    · omega
theorem BlS.join (h : BlS mp K n x y L) (hx : x < n) (hy : y < n) (hmp : ∀ i a, i < K → a < n → mp i a < n) {a b k : Nat} (ha : a < n) (hb : b < n) (he : lb L a = lb L b) (hk : k < K) :
    BlS mp K n x y (joinL L (lb L (mp k b)) (lb L (mp k a))) := by
  have ma := hmp k a hk ha
  have mb := hmp k b hk hb
  have hab := (h.snd a b ha hb he).step k hk
  have at_ : ∀ c, c < n → lb (joinL L (lb L (mp k b)) (lb L (mp k a))) c = if lb L c = lb L (mp k a) then lb L (mp k b) else lb L c := fun c hc => joinL_at L _ _ c (by rw [h.len]; exact hc)
  refine ⟨by rw [joinL_length]; exact h.len, fun c d hc hd e => ?_, ?_, fun v hv => ?_⟩
  · rw [at_ c hc, at_ d hd] at e
    by_cases e1 : lb L c = lb L (mp k a)
    · have c1 := h.snd c _ hc ma e1
      by_cases e2 : lb L d = lb L (mp k a)
      · exact c1.trans (h.snd d _ hd ma e2).symm
      · rw [if_pos e1, if_neg e2] at e
        exact (c1.trans hab).trans (h.snd _ d mb hd e)
    · by_cases e2 : lb L d = lb L (mp k a)
      · rw [if_neg e1, if_pos e2] at e
        exact ((h.snd c _ hc mb e).trans hab.symm).trans (h.snd _ d ma hd e2.symm)
      · rw [if_neg e1, if_neg e2] at e
        exact h.snd c d hc hd e
  · exact joinL_coarser L _ _ (by rw [h.len]; exact hx) (by rw [h.len]; exact hy) h.st
  · obtain ⟨u, hu, e⟩ := List.mem_map.1 hv
    by_cases h1 : u = lb L (mp k a)
    · rw [if_pos h1] at e; subst e; exact h.rng _ (lb_mem (by rw [h.len]; exact mb))
    · rw [if_neg h1] at e; subst e; exact h.rng _ hu
theorem BlS.fewer (h : BlS mp K n x y L) (hmp : ∀ i a, i < K → a < n → mp i a < n) {a b k : Nat} (ha : a < n) (hb : b < n) (hk : k < K) (hne : lb L (mp k a) ≠ lb L (mp k b)) :
    cgCnt n (joinL L (lb L (mp k b)) (lb L (mp k a))) < cgCnt n L :=
  cgCnt_join (lb_mem (by rw [h.len]; exact hmp k b hk hb)) (lb_mem (by rw [h.len]; exact hmp k a hk ha)) hne.symm (h.rng _ (lb_mem (by rw [h.len]; exact hmp k a hk ha)))
theorem BlS.done (h : BlS mp K n x y L) (hx : x < n) (hy : y < n) (hmp : ∀ i a, i < K → a < n → mp i a < n) (hc : ∀ a, a < n → ∀ b, b < a → Cl1 mp K L a b) : ∀ a b, a < n → b < n → (lb L a = lb L b ↔ MgE mp K x y a b) := by
  have cl2 : ∀ a b, a < n → b < n → Cl1 mp K L a b := by
    intro a b ha hb e k hk
    rcases Nat.lt_trichotomy a b with h1 | h1 | h1
    · exact (hc b hb a h1 e.symm k hk).symm
    · rw [h1]
    · exact hc a ha b h1 e k hk
  have cl : ∀ a b, MgE mp K x y a b → a = b ∨ ((a < n ∧ b < n) ∧ lb L a = lb L b) := by
    intro a b e
    induction e with
    | base => exact .inr ⟨⟨hx, hy⟩, h.st⟩
    | refl a => exact .inl rfl
    | symm _ ih =>
      rcases ih with e | ⟨⟨i1, i2⟩, i3⟩
      · exact .inl e.symm
      · exact .inr ⟨⟨i2, i1⟩, i3.symm⟩
    | trans _ _ ih1 ih2 =>
      rcases ih1 with e | ⟨⟨i1, i2⟩, i3⟩
      · rw [e]; exact ih2
      · rcases ih2 with e | ⟨⟨k1, k2⟩, k3⟩
        · rw [← e]; exact .inr ⟨⟨i1, i2⟩, i3⟩
        · exact .inr ⟨⟨i1, k2⟩, i3.trans k3⟩
    | step z hz _ ih =>
      rcases ih with e | ⟨⟨i1, i2⟩, i3⟩
      · exact .inl (by rw [e])
      · exact .inr ⟨⟨hmp _ _ hz i1, hmp _ _ hz i2⟩, cl2 _ _ i1 i2 i3 z hz⟩
  intro a b ha hb
  refine ⟨h.snd a b ha hb, fun e => ?_⟩
  rcases cl a b e with e | ⟨_, e⟩
  · rw [e]
  · exact e
end
/-- The class of an element under maps, written by one of its elements. -/
noncomputable def mgRep (mp : Nat → Nat → Nat) (K x y a : Nat) : Nat := Classical.epsilon fun b => MgE mp K x y a b
theorem mgRep_eq {mp : Nat → Nat → Nat} {K x y a b : Nat} : mgRep mp K x y a = mgRep mp K x y b ↔ MgE mp K x y a b := by
  have hin : ∀ a, MgE mp K x y a (mgRep mp K x y a) := fun a => Classical.epsilon_spec (p := fun b => MgE mp K x y a b) ⟨a, .refl a⟩
  constructor
  · intro e
    have h := hin b
    rw [← e] at h
    exact (hin a).trans h.symm
  · intro e
    unfold mgRep
    have : (fun c => MgE mp K x y a c) = fun c => MgE mp K x y b c := funext fun c => propext ⟨fun h => e.symm.trans h, fun h => e.trans h⟩
    rw [this]
noncomputable def mgC (mp : Nat → Nat → Nat) (K n x y : Nat) : List Int := (List.range n).map fun (a : Nat) => ((mgRep mp K x y a : Nat) : Int)
theorem mgC_length (mp : Nat → Nat → Nat) (K n x y : Nat) : (mgC mp K n x y).length = n := by simp [mgC]
theorem mgC_eq {mp : Nat → Nat → Nat} {K n x y a b : Nat} (ha : a < n) (hb : b < n) : lb (mgC mp K n x y) a = lb (mgC mp K n x y) b ↔ MgE mp K x y a b := by
  have e : ∀ a, a < n → lb (mgC mp K n x y) a = ((mgRep mp K x y a : Nat) : Int) := fun a h => by simp [lb, mgC, h]
  rw [e a ha, e b hb, ← mgRep_eq (mp := mp) (K := K) (x := x) (y := y) (a := a) (b := b)]
  omega
/-- The least block system with x and y in one block, as a list. -/
noncomputable def blL (f s : List (List Int)) (x y : Nat) : List Int := numL (mgC (ap (bothL f s)) (f.length + f.length) f.length x y)
theorem blL_length (f s : List (List Int)) (x y : Nat) : (blL f s x y).length = f.length := by unfold blL; rw [numL_length, mgC_length]
theorem prm_at {p : List Int} {n a : Nat} (h : p.length = n ∧ Prm p) (ha : a < n) : 0 ≤ p.getD a 0 ∧ p.getD a 0 < (n : Int) := by
  have h2 := h.2.2.2.1 (p.getD a 0) (lb_mem (by rw [h.1]; exact ha))
  rw [h.1] at h2
  exact h2
theorem both_lt {f s : List (List Int)} {n : Nat} (h : NdS f s) (hn : f.length = n) : ∀ i a, i < n + n → a < n → ap (bothL f s) i a < n := by
  intro i a hi ha
  have hg := h.both hn i (by rw [bothL_length hn (h.sizes hn).2.2]; exact hi)
  have h2 := prm_at hg ha
  unfold ap
  omega
theorem BlS.blL {f s : List (List Int)} {n x y : Nat} {L : List Int} (hn : f.length = n) (hg : NdS f s) (h : BlS (ap (bothL f s)) (n + n) n x y L) (hx : x < n) (hy : y < n) (hc : ∀ a, a < n → ∀ b, b < a → Cl1 (ap (bothL f s)) (n + n) L a b) : numL L = blL f s x y := by
  subst hn
  exact numL_same h.len (mgC_length _ _ _ _ _) fun a b ha hb => (h.done hx hy (both_lt hg rfl) hc a b ha hb).trans (mgC_eq ha hb).symm
theorem MgS.blL {f s : List (List Int)} {n x y : Nat} {L : List Int} (hn : f.length = n) (hg : NdS f s) (h : MgS (ap (bothL f s)) (n + n) n x y L []) (hx : x < n) (hy : y < n) : numL L = blL f s x y := by
  subst hn
  exact numL_same h.len (mgC_length _ _ _ _ _) fun a b ha hb => (h.done hx hy (both_lt hg rfl) a b ha hb).trans (mgC_eq ha hb).symm
/-- The cells of a list of rows. -/
theorem rows_cells {w : World} {A : Option Addr} {rows : List (List Int)} {n K : Nat} (hr : Rd2 w A rows) (hK : rows.length = K) (h1 : 1 ≤ n) (hl : ∀ i, i < K → (rows.getD i []).length = n) (hv : ∀ i a, i < K → a < n → 0 ≤ (rows.getD i []).getD a 0) (hpos : 1 ≤ K) :
    ∃ b o, A = some ⟨b, o, none⟩ ∧ b < w.heap.size ∧ ∀ i, i < K → ∃ bi oi ci, w.cell? ⟨b, o + i, none⟩ = some (.slice (some ⟨bi, oi, none⟩) n ci) ∧ bi < w.heap.size ∧ ∀ a, a < n → w.cell? ⟨bi, oi + a, none⟩ = some (.int .i64 ((ap rows i a : Nat) : Int)) := by
  obtain ⟨b, o, rfl, hb, hc⟩ := hr (by omega)
  refine ⟨b, o, rfl, hb, fun i hi => ?_⟩
  obtain ⟨Ai, ci, h2, h3⟩ := hc i (by omega)
  obtain ⟨bi, oi, rfl, hbi, hci⟩ := h3 (by rw [hl i hi]; omega)
  refine ⟨bi, oi, ci, by rw [h2, hl i hi], hbi, fun a ha => ?_⟩
  rw [hci a (by rw [hl i hi]; exact ha)]
  have := hv i a hi ha
  unfold ap
  congr 2
  omega
theorem both_nonneg {f s : List (List Int)} {n : Nat} (h : NdS f s) (hn : f.length = n) : ∀ i a, i < n + n → a < n → 0 ≤ ((bothL f s).getD i []).getD a 0 := by
  intro i a hi ha
  have hg := h.both hn i (by rw [bothL_length hn (h.sizes hn).2.2]; exact hi)
  exact (prm_at hg ha).1
end Go.Proofs.Ytaejgmdeiemhcab
namespace Go.Proofs.Ytaejgmdeiemhcab
open Go Go.RowKit
/-! A forest of elements that point to each other. -/
/-- Who points to whom; the root of each; how deep each lies. -/
structure Frs (n : Nat) (par : Nat → Option Nat) (rt dp : Nat → Nat) : Prop where
  top : ∀ x, x < n → par x = none → rt x = x
  up : ∀ x p, x < n → par x = some p → p < n ∧ rt p = rt x ∧ dp p < dp x
  rin : ∀ x, x < n → rt x < n ∧ par (rt x) = none
theorem Frs.new (n : Nat) : Frs n (fun _ => none) (fun x => x) (fun _ => 0) :=
  ⟨fun _ _ _ => rfl, fun _ _ _ h => by simp at h, fun x hx => ⟨hx, rfl⟩⟩
theorem Frs.root {n : Nat} {par : Nat → Option Nat} {rt dp : Nat → Nat} (h : Frs n par rt dp) {x : Nat} (hx : x < n) : rt (rt x) = rt x := h.top _ (h.rin x hx).1 (h.rin x hx).2
/-- The root l is put below the root k. -/
theorem Frs.join {n : Nat} {par : Nat → Option Nat} {rt dp : Nat → Nat} (h : Frs n par rt dp) {k l : Nat} (hk : k < n) (hl : l < n) (rk : rt k = k) (rl : rt l = l) (hne : k ≠ l) :
    Frs n (fun x => if x = l then some k else par x) (fun x => if rt x = l then k else rt x) (fun x => if rt x = l then dp x + dp k + 1 else dp x) := by
  refine ⟨fun x hx hp => ?_, fun x p hx hp => ?_, fun x hx => ?_⟩
  · by_cases e : x = l
    · simp [e] at hp
    · simp only [if_neg e] at hp
      have h1 := h.top x hx hp
      simp only [h1, if_neg e]
  · by_cases e : x = l
    · subst e
      simp only [if_pos, Option.some.injEq] at hp
      subst hp
      refine ⟨hk, ?_, ?_⟩
      · simp only [rk, rl, if_neg hne, if_pos]
      · simp only [rk, rl, if_neg hne, if_pos]
        omega
    · simp only [if_neg e] at hp
      obtain ⟨h1, h2, h3⟩ := h.up x p hx hp
      refine ⟨h1, by simp only [h2], ?_⟩
      simp only [h2]
      by_cases e2 : rt x = l
      · simp only [if_pos e2]; omega
      · simp only [if_neg e2]; exact h3
  · have h1 := h.rin x hx
    by_cases e2 : rt x = l
    · simp only [if_pos e2]
      refine ⟨hk, ?_⟩
      simp only [if_neg hne]
      have := h.rin k hk
      rw [rk] at this
      exact this.2
    · simp only [if_neg e2]
      exact ⟨h1.1, h1.2⟩
/-- The roots as a list. -/
def rtL (n : Nat) (rt : Nat → Nat) : List Int := (List.range n).map fun x => (rt x : Int)
theorem rtL_length (n : Nat) (rt : Nat → Nat) : (rtL n rt).length = n := by simp [rtL]
theorem rtL_lb {n : Nat} {rt : Nat → Nat} {a : Nat} (h : a < n) : lb (rtL n rt) a = (rt a : Int) := by simp [lb, rtL, h]
theorem rtL_join (n : Nat) (rt : Nat → Nat) (k l : Nat) : joinL (rtL n rt) (k : Int) (l : Int) = rtL n (fun x => if rt x = l then k else rt x) := by
  unfold joinL rtL
  rw [List.map_map]
  apply List.map_congr_left
  intro x _
  simp only [Function.comp]
  by_cases e : rt x = l
  · rw [if_pos (by omega), if_pos e]
  · rw [if_neg (by omega), if_neg e]
/-- A pointer to the node of an element. -/
def ptr (g : Nat) : Option Nat → Option Addr
  | none => none
  | some p => some ⟨g, p * 2, none⟩
/-- The nodes in memory. -/
def FrM (t : TypeId) (w : World) (g n : Nat) (par : Nat → Option Nat) : Prop :=
  ∃ cur : Array Value, w.heap[g]? = some (.cells cur t (0, 0)) ∧ ∀ x, x < n → cur[x * 2]? = some (.int .i64 (x : Int)) ∧ cur[x * 2 + 1]? = some (.pointer (ptr g (par x)))
section
variable {t : TypeId} {w w' : World} {g n : Nat} {par : Nat → Option Nat}
theorem FrM.lt (h : FrM t w g n par) : g < w.heap.size := by
  obtain ⟨cur, h1, _⟩ := h
  exact (Array.getElem?_eq_some_iff.1 h1).1
theorem FrM.elt (h : FrM t w g n par) {x : Nat} (hx : x < n) : w.cell? ⟨g, x * 2, none⟩ = some (.int .i64 (x : Int)) := by
  obtain ⟨cur, h1, h2⟩ := h
  rw [cell_of_row w g _ cur t (0, 0) h1]
  exact (h2 x hx).1
theorem FrM.pnt (h : FrM t w g n par) {x : Nat} (hx : x < n) : w.cell? ⟨g, x * 2 + 1, none⟩ = some (.pointer (ptr g (par x))) := by
  obtain ⟨cur, h1, h2⟩ := h
  rw [cell_of_row w g _ cur t (0, 0) h1]
  exact (h2 x hx).2
theorem FrM.frozen (h : FrM t w g n par) (i : Nat) : w.frozen? ⟨g, i, none⟩ = false := by
  obtain ⟨cur, h1, _⟩ := h
  simp [World.frozen?, h1]
theorem FrM.of_block (h : FrM t w g n par) (e : w'.heap[g]? = w.heap[g]?) : FrM t w' g n par := by
  obtain ⟨cur, h1, h2⟩ := h
  exact ⟨cur, e.trans h1, h2⟩
theorem FrM.later {B : Nat} (h : FrM t w g n par) (hb : Below B w w') (hg : g < B) : FrM t w' g n par := h.of_block (hb.block g hg)
theorem FrM.set (h : FrM t w g n par) {l k : Nat} (hl : l < n) : FrM t (w.setCell ⟨g, l * 2 + 1, none⟩ (.pointer (some ⟨g, k * 2, none⟩))) g n (fun x => if x = l then some k else par x) := by
  obtain ⟨cur, h1, h2⟩ := h
  have hsz : l * 2 + 1 < cur.size := (Array.getElem?_eq_some_iff.1 (h2 l hl).2).1
  refine ⟨cur.setIfInBounds (l * 2 + 1) (.pointer (some ⟨g, k * 2, none⟩)), by simp [World.setCell, Array.getElem?_modify, h1], fun x hx => ?_⟩
  obtain ⟨e1, e2⟩ := h2 x hx
  rw [Array.getElem?_setIfInBounds, if_neg (by omega), Array.getElem?_setIfInBounds]
  refine ⟨e1, ?_⟩
  by_cases e : x = l
  · subst e
    simp [hsz, ptr]
  · rw [if_neg (by omega), e2]
    simp [e]
end
end Go.Proofs.Ytaejgmdeiemhcab
namespace Go.Proofs.Ytaejgmdeiemhcab
open Go Go.RowKit
set_option maxHeartbeats 2000000
theorem ccInfo2 : (Try.prog.info? 32).map (fun i => (i.zero, i.size, i.bytes)) = some (some (.slice none 0 0), 1, 24) := by kernel_rfl
/-- A list of rows that is read, as its cells. -/
theorem Rd2.look {w : World} {A : Option Addr} {f : List (List Int)} (h : Rd2 w A f) (h0 : 0 < f.length) : ∃ (b o : Nat) (va : List Value), A = some ⟨b, o, none⟩ ∧ b < w.heap.size ∧ va.length = f.length ∧ (∀ i u, va[i]? = some u → w.cell? ⟨b, o + i, none⟩ = some u) ∧ (∀ u ∈ va, u.oneCell' = true) ∧ ∀ i, i < f.length → ∃ Ai ci, va[i]? = some (.slice Ai (f.getD i []).length ci) ∧ Rd w Ai (f.getD i []) := by
  obtain ⟨b, o, rfl, hb, hc⟩ := h h0
  have hc' : ∀ i : Fin f.length, ∃ p : Option Addr × Nat, w.cell? ⟨b, o + i.val, none⟩ = some (.slice p.1 (f.getD i.val []).length p.2) ∧ Rd w p.1 (f.getD i.val []) := fun i => by
    obtain ⟨Ax, cx, h1, h2⟩ := hc i.val i.isLt
    exact ⟨(Ax, cx), h1, h2⟩
  obtain ⟨R, hR⟩ := Classical.axiomOfChoice hc'
  refine ⟨b, o, List.ofFn (fun i : Fin f.length => Value.slice (R i).1 (f.getD i.val []).length (R i).2), rfl, hb, by simp, fun i u hu => ?_, fun u hu => ?_, fun i hi => ⟨(R ⟨i, hi⟩).1, (R ⟨i, hi⟩).2, by simp [hi], (hR ⟨i, hi⟩).2⟩⟩
  · obtain ⟨hi, rfl⟩ := List.getElem?_eq_some_iff.1 hu
    have hi' : i < f.length := by simpa using hi
    simpa [hi'] using (hR ⟨i, hi'⟩).1
  · obtain ⟨i, rfl⟩ := (List.mem_ofFn).1 hu
    rfl
set_option maxRecDepth 100000 in
theorem grow0_any (n : Nat) (w : World) (hn : n ≤ 4096) (h1 : 1 ≤ n) :
    Calls Try.prog 145 #[.slice none 0 0, .int .i64 n] w fun e w' => ∃ g c, e = .returned (.slice (some ⟨g, 0, none⟩) 0 c) ∧ Below w.heap.size w w' ∧ w'.ownsRow w.heap.size 32 1 (.slice (some ⟨g, 0, none⟩) 0 c) 0 [] := by
  have hnz : ¬ ((n : Int) < 0) := by omega
  have hpz : (0 : Int) < n := by omega
  have hby0 : Try.t32.bytes = 24 := by kernel_rfl
  have hby : ¬ (281474976710656 < (n : Int) * (Try.t32.bytes : Int)) := by rw [hby0]; omega
  have hnx : ¬ (281474976710656 < Builtin.nextslicecap n 0 * 24) := by
    unfold Builtin.nextslicecap
    rw [if_pos (by omega)]
    omega
  have hge := grownCap_ge w n 0 32
  have hle := grownCap_le_maxLen w n 0 32 (by unfold maxLen; omega)
  have HGE := hide hge
  have HLE := hide hle
  clear hge hle
  go_enter Try.func145, Try.ntmps145
  go_wp2_with fail
  go_ret
  obtain ⟨cap, hcap⟩ : ∃ cap, (Question.appendCap n 0 32).cut (w.tape w.drawn (Question.appendCap n 0 32)) = cap := ⟨_, rfl⟩
  have h2 : n ≤ cap := by rw [← hcap]; exact HGE.out
  have h3 : cap ≤ maxLen := by rw [← hcap]; exact HLE.out
  rw [hcap]
  refine ⟨w.heap.size, cap, rfl, ((Below.refl _ _).alloc (Nat.le_refl _) _).drew, by simp, .inr ⟨w.heap.size, cap, _, rfl, Nat.le_refl _, heap_alloc_new _ _, Nat.zero_le _, h3, ?_, by simp⟩⟩
  simp [Builtin.zeroCells]
  omega
theorem addr_addC (b o j : Nat) : (⟨b, o, none⟩ : Addr).add j = ⟨b, o + j, none⟩ := by
  cases j with
  | zero => rfl
  | succ j => simp [Addr.add]
/-- What lies in the new list when k of the two lists are in it. -/
def catV (va vb : List Value) : Nat → List Value
  | 0 => []
  | 1 => va
  | _ => va ++ vb
def catN (n1 n2 : Nat) : Nat → Nat
  | 0 => 0
  | 1 => n1
  | _ => n1 + n2
set_option maxRecDepth 100000 in
theorem concat2_any (A : Option Addr) (n1 c1 : Nat) (f : List (List Int)) (B : Option Addr) (n2 c2 : Nat) (g : List (List Int)) (bq : Nat) (w : World) (hn1 : f.length = n1) (hn2 : g.length = n2) (h1 : 1 ≤ n1) (h2 : 1 ≤ n2) (hb1 : n1 ≤ 1024) (hb2 : n2 ≤ 1024) (hA : Rd2 w A f) (hB : Rd2 w B g) (hq : Blk w bq 22 [.slice A n1 c1, .slice B n2 c2]) :
    Calls Try.prog 126 #[.slice (some ⟨bq, 0, none⟩) 2 2] w fun e w' => ∃ A' c', e = .returned (.slice A' (n1 + n2) c') ∧ Below w.heap.size w w' ∧ Rd2 w' A' (f ++ g) := by
  obtain ⟨i0, hi, hz0, hz1, hz2⟩ := info_parts ccInfo2
  obtain ⟨b1, o1, va, rfl, hbw1, hva, hca, ha1, hra⟩ := hA.look (by omega)
  obtain ⟨b2, o2, vb, rfl, hbw2, hvb, hcb, hbb1, hrb⟩ := hB.look (by omega)
  have HVA := hide hva
  have HVB := hide hvb
  have HCA := hide hca
  have HCB := hide hcb
  have HA1 := hide ha1
  have HB1 := hide hbb1
  have HRA := hide hra
  have HRB := hide hrb
  have HQ := hide hq
  have HN1 := hide hn1
  have HN2 := hide hn2
  clear hva hvb hca hcb ha1 hbb1 hra hrb hA hB hq hn1 hn2
  go_enter Try.func126, Try.ntmps126
  go_wp2_with fail
  go_loopw [3, 11] (fun v i wr => ∃ k : Nat, k ≤ 2 ∧ i = .int .i64 k ∧ v = .int .i64 (catN n1 n2 k : Nat) ∧ Below w.heap.size w wr) (fun _ i _ => 2 - (intOf i).toNat)
  case atStart => exact ⟨0, Nat.zero_le _, rfl, rfl, Below.refl _ _⟩
  case round =>
    obtain ⟨k, hk, rfl, rfl, hbe⟩ := hrel
    have HB := hide hbe
    have HQk := hide (HQ.out.later hbe)
    clear hbe
    have hk3 : k = 0 ∨ k = 1 ∨ k = 2 := by omega
    rcases hk3 with rfl | rfl | rfl
    · rw [show catN n1 n2 0 = 0 from rfl]
      have k0 := HQk.out.cell 0 _ rfl
      have hcz : ¬ ((n1 : Int) < 0) := by omega
      go_wp2_with fail
      go_roundw
      case rel => exact ⟨1, by omega, by go_num, by simp [catN], HB.out⟩
      case measure => simp [intOf]
    · rw [show catN n1 n2 1 = n1 from rfl]
      have k0 := HQk.out.cell 1 _ rfl
      have hcz : ¬ ((n1 : Int) + (n2 : Int) < 0) := by omega
      go_wp2_with fail
      go_roundw
      case rel => exact ⟨2, by omega, by go_num, by simp [catN], HB.out⟩
      case measure => simp [intOf]
    · clear HQk
      obtain ⟨N, hN⟩ : ∃ N, n1 + n2 = N := ⟨_, rfl⟩
      have hcn : catN n1 n2 2 = N := by simp [catN, hN]
      rw [hcn]
      go_wp2_with fail
      refine (grow0_any N _ (by omega) (by omega)).mono ?_
      rintro e w1 ⟨gg, cc, rfl, hb1', hown⟩
      have HB2 := hide (HB.out.trans (hb1'.mono HB.out.size))
      have HS0 := hide HB.out.size
      have HSZ := hide hb1'.size
      have HO := hide hown
      obtain ⟨base, hbase⟩ : ∃ base, wr.heap.size = base := ⟨_, rfl⟩
      rw [hbase] at HO HS0 HSZ
      clear hb1' hown hbase HB
      go_wp2_with fail
      go_loopw [6, 27] (fun v i wr => ∃ k : Nat, k ≤ 2 ∧ i = .int .i64 k ∧ Below w.heap.size w wr ∧ wr.ownsRow base 32 1 v (catN n1 n2 k) (catV va vb k) ∧ base ≤ wr.heap.size) (fun _ i _ => 2 - (intOf i).toNat)
      case atStart => exact ⟨0, Nat.zero_le _, rfl, HB2.out, HO.out, HSZ.out⟩
      case round =>
        clear HB2 HO
        obtain ⟨k, hk, rfl, hbe, hown, hsz⟩ := hrel
        have HB := hide hbe
        have HO := hide hown
        have HQk := hide (HQ.out.later hbe)
        clear hbe hown
        have hk3 : k = 0 ∨ k = 1 ∨ k = 2 := by omega
        rcases hk3 with rfl | rfl | rfl
        · have k0 := HQk.out.cell 0 _ rfl
          rw [show catN n1 n2 0 = 0 from rfl, show catV va vb 0 = [] from rfl] at HO
          go_wp2_with (at_builtin; refine wpList_append_own _ rfl _ _ 22 rfl base 32 i0 (.slice none 0 0) 1 24 Try.underlying22 hi hz0 hz1 hz2 rfl (by decide) _ _ _ rfl HO.out ⟨b1, o1, none⟩ n1 c1 va rfl ?c1 ?c0 ?c2 ?c3 ?c4 ?c5 ?_)
          case c0 => intro j u hu; rw [addr_addC]; exact (HB.out.cell (p := ⟨b1, o1 + j, none⟩) hbw1).trans (HCA.out j u hu)
          case c1 => have h3 := HVA.out; have h4 := HN1.out; omega
          case c2 => exact HA1.out
          case c3 => unfold maxLen; omega
          case c4 => omega
          case c5 => exact hsz
          intro v' w3 hown' hgrow _
          have HO' := hide hown'
          have HG := hide hgrow
          clear hown' hgrow
          go_wp2_with fail
          go_roundw
          case rel => exact ⟨0 + 1, by omega, by go_num, HB.out.grown HG.out HB.out.size (fun g2 hg2 => Nat.le_trans HS0.out (HO.out.lt g2 hg2).1), by have h := HO'.out; simpa [catN, catV, hN] using h, Nat.le_trans hsz HG.out.size⟩
          case measure => simp [intOf]
        · have k0 := HQk.out.cell 1 _ rfl
          rw [show catN n1 n2 1 = n1 from rfl, show catV va vb 1 = va from rfl] at HO
          go_wp2_with (at_builtin; refine wpList_append_own _ rfl _ _ 22 rfl base 32 i0 (.slice none 0 0) 1 24 Try.underlying22 hi hz0 hz1 hz2 rfl (by decide) _ _ _ rfl HO.out ⟨b2, o2, none⟩ n2 c2 vb rfl ?c1 ?c0 ?c2 ?c3 ?c4 ?c5 ?_)
          case c0 => intro j u hu; rw [addr_addC]; exact (HB.out.cell (p := ⟨b2, o2 + j, none⟩) hbw2).trans (HCB.out j u hu)
          case c1 => have h3 := HVB.out; have h4 := HN2.out; omega
          case c2 => exact HB1.out
          case c3 => unfold maxLen; omega
          case c4 => omega
          case c5 => exact hsz
          intro v' w3 hown' hgrow _
          have HO' := hide hown'
          have HG := hide hgrow
          clear hown' hgrow
          go_wp2_with fail
          go_roundw
          case rel => exact ⟨1 + 1, by omega, by go_num, HB.out.grown HG.out HB.out.size (fun g2 hg2 => Nat.le_trans HS0.out (HO.out.lt g2 hg2).1), by have h := HO'.out; simpa [catN, catV, hN] using h, Nat.le_trans hsz HG.out.size⟩
          case measure => simp [intOf]
        · clear HQk
          rw [show catN n1 n2 2 = n1 + n2 from rfl, show catV va vb 2 = va ++ vb from rfl] at HO
          go_wp2_with fail
          go_ret
          have ho := HO.out
          rcases ho.2 with ⟨_, hz⟩ | ⟨g3, cap, cur, rfl, hg3, hh, _, _, _, h5⟩
          · omega
          · refine ⟨_, _, rfl, HB.out, fun _ => ⟨g3, 0, rfl, (Array.getElem?_eq_some_iff.1 hh).1, fun i hi => ?_⟩⟩
            have hl1 := HVA.out
            have hl2 := HVB.out
            have key : ∃ Ai ci, (va ++ vb)[i]? = some (.slice Ai ((f ++ g).getD i []).length ci) ∧ Rd wr Ai ((f ++ g).getD i []) := by
              by_cases e : i < f.length
              · obtain ⟨Ai, ci, e1, e2⟩ := HRA.out i e
                have e3 : (f ++ g).getD i [] = f.getD i [] := by simp [List.getElem?_append_left e]
                rw [e3]
                exact ⟨Ai, ci, by rw [List.getElem?_append_left (by omega)]; exact e1, e2.later HB.out⟩
              · have hi2 : i - f.length < g.length := by simp at hi; omega
                obtain ⟨Ai, ci, e1, e2⟩ := HRB.out (i - f.length) hi2
                have e3 : (f ++ g).getD i [] = g.getD (i - f.length) [] := by simp [List.getElem?_append_right (by omega : f.length ≤ i)]
                rw [e3]
                exact ⟨Ai, ci, by rw [List.getElem?_append_right (by omega), hl1]; exact e1, e2.later HB.out⟩
            obtain ⟨Ai, ci, e1, e2⟩ := key
            refine ⟨Ai, ci, ?_, e2⟩
            have hin : i < n1 + n2 := by simp at hi; have := HN1.out; have := HN2.out; omega
            rw [Nat.zero_add, cell_of_row wr g3 i cur 32 (0, 0) hh]
            have h6 := e1
            rw [← h5, List.getElem?_take, if_pos (by omega)] at h6
            simpa using h6
end Go.Proofs.Ytaejgmdeiemhcab
namespace Go.Proofs.Ytaejgmdeiemhcab
open Go Go.RowKit
set_option maxHeartbeats 2000000
theorem rhoZ_any (A : Option Addr) (n c : Nat) (f : List (List Int)) (B : Option Addr) (m d : Nat) (s : List (List Int)) (w : World) (hz : ZArg 1048576 w A n f B m s) (hp : PMap f s) :
    Calls Try.prog 127 #[.agg #[.slice A n c, .slice B m d]] w fun e w' => ∃ A' c', e = .returned (.slice A' n c') ∧ Below w.heap.size w w' ∧ Obj2 32 2 w.heap.size w'.heap.size w' A' (turnL s) := by
  obtain rfl := hz.same hp
  have hnb := hz.sz.nb
  have HZ := hide hz
  have HP := hide hp
  have HB0 := hide ((Below.refl _ w).alloc (Nat.le_refl _) (Obj.cells #[Value.slice A m c, Value.slice B m d] 35))
  have HK0 := hide (Blk.new w 35 [.slice A m c, .slice B m d])
  have k1 := HK0.out.cell 1 _ rfl
  clear hz hp
  go_enter Try.func127, Try.ntmps127
  go_wp2_with fail
  refine (turnI_any _ _ _ s _ HZ.out.sz.sl hnb (fun i hi => by rw [HP.out.2.1.rows i hi]; exact HZ.out.sz.sl) (HZ.out.later HB0.out).snd).mono ?_
  rintro e w1 ⟨A1, c1, rfl, hb1, hobj⟩
  have HB1 := hide (HB0.out.trans (hb1.mono HB0.out.size))
  have HO1 := hide (hobj.mono (lo' := w.heap.size) HB0.out.size (Nat.le_refl _))
  clear hb1 hobj k1
  go_wp2_with fail
  go_ret
  exact ⟨_, _, rfl, HB1.out, HO1.out⟩
end Go.Proofs.Ytaejgmdeiemhcab
