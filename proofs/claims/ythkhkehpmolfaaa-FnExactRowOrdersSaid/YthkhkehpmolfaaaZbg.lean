import Derived.Test.YthkhkehpmolfaaaZaz
import Derived.Test.YthkhkehpmolfaaaZae
import Derived.Test.YthkhkehpmolfaaaProg
import Derived.Test.YthkhkehpmolfaaaZb
namespace Go.Proofs.Ythkhkehpmolfaaa
open Go Go.RowKit
open Classical

/-- How many of n elements have the label o. -/
def cnt (f : Nat → Int) (n : Nat) (o : Nat) : Nat := (List.range n).countP fun y => f y == (o : Int)
theorem cnt_congr (f g : Nat → Int) (n o : Nat) (h : ∀ y, y < n → (f y = (o : Int) ↔ g y = (o : Int))) : cnt f n o = cnt g n o := by
  unfold cnt
  refine List.countP_congr (fun y hy => ?_)
  have := h y (List.mem_range.1 hy)
  simpa using this
theorem cnt_list (f : Nat → Int) (n o : Nat) (V : List Nat) (hnd : V.Nodup) (h : ∀ y, y ∈ V ↔ y < n ∧ f y = (o : Int)) : cnt f n o = V.length := by
  unfold cnt
  rw [List.countP_eq_length_filter]
  have hF : ((List.range n).filter fun y => f y == (o : Int)).Nodup := List.Pairwise.filter _ List.nodup_range
  have hm : ∀ y, y ∈ (List.range n).filter (fun y => f y == (o : Int)) ↔ y ∈ V := fun y => by
    rw [h y]; simp
  obtain ⟨l1, h1⟩ := subset_perm _ V hF (fun a ha => (hm a).1 ha)
  obtain ⟨l2, h2⟩ := subset_perm V _ hnd (fun a ha => (hm a).2 ha)
  have e1 := h1.length_eq
  have e2 := h2.length_eq
  rw [List.length_append] at e1 e2
  omega

structure LabOk (rows : List (List Int)) (n k : Nat) : Prop where
  lt : ∀ y, (lab rows k).1 y < ((lab rows k).2 : Int)
  onto : ∀ o, o < (lab rows k).2 → ∃ y, y < n ∧ (lab rows k).1 y = (o : Int)
  all : ∀ y, y < k → 0 ≤ (lab rows k).1 y
theorem lab_ok (rows : List (List Int)) (n k : Nat) (hg : Gens rows n) (hk : k ≤ n) : LabOk rows n k := by
  induction k with
  | zero => exact ⟨fun y => by simp [lab], fun o ho => by simp [lab] at ho, fun y hy => by omega⟩
  | succ k ih =>
    have ih := ih (by omega)
    by_cases h0 : 0 ≤ (lab rows k).1 k
    · have e : lab rows (k + 1) = lab rows k := by rw [lab, if_pos h0]
      exact ⟨by rw [e]; exact ih.lt, by rw [e]; exact ih.onto, fun y hy => by
        rw [e]
        by_cases h : y = k
        · subst h; exact h0
        · exact ih.all y (by omega)⟩
    · have e : lab rows (k + 1) = (fun y => if Rch rows k y then ((lab rows k).2 : Int) else (lab rows k).1 y, (lab rows k).2 + 1) := by rw [lab, if_neg h0]
      have hun : ∀ y, Rch rows k y → (lab rows k).1 y < 0 := fun y hy => by
        have hkn : k < n := by omega
        induction hy with
        | start => omega
        | @step a b h1 hs ih2 =>
          have ha := hg.stay hkn h1
          have := lab_closed hg k (by omega) a b ha hs
          omega
      refine ⟨?_, ?_, ?_⟩
      · intro y
        rw [e]
        show (if Rch rows k y then ((lab rows k).2 : Int) else (lab rows k).1 y) < (((lab rows k).2 + 1 : Nat) : Int)
        have := ih.lt y
        split <;> omega
      · intro o ho
        rw [e] at ho ⊢
        have ho' : o < (lab rows k).2 + 1 := ho
        show ∃ y, y < n ∧ (if Rch rows k y then ((lab rows k).2 : Int) else (lab rows k).1 y) = (o : Int)
        by_cases h : o = (lab rows k).2
        · exact ⟨k, by omega, by rw [if_pos .start, h]⟩
        · obtain ⟨y, hy, hyo⟩ := ih.onto o (by omega)
          refine ⟨y, hy, ?_⟩
          rw [if_neg (fun hr => by have := hun y hr; omega), hyo]
      · intro y hy
        rw [e]
        show 0 ≤ (if Rch rows k y then ((lab rows k).2 : Int) else (lab rows k).1 y)
        by_cases h : Rch rows k y
        · rw [if_pos h]; omega
        · rw [if_neg h]
          by_cases h2 : y = k
          · subst h2; exact absurd .start h
          · exact ih.all y (by omega)
theorem lab_free {rows : List (List Int)} {n k : Nat} (hg : Gens rows n) (hk : k < n) (h0 : (lab rows k).1 k < 0) (y : Nat) (hy : Rch rows k y) : (lab rows k).1 y < 0 := by
  induction hy with
  | start => exact h0
  | @step a b h1 hs ih2 =>
    have ha := hg.stay hk h1
    have := lab_closed hg k (by omega) a b ha hs
    omega

/-- The numbers of elements of the labels when the elements below k are done. -/
noncomputable def cyc (rows : List (List Int)) (n k : Nat) : List Int := (List.range (lab rows k).2).map fun o => (cnt (lab rows k).1 n o : Int)
theorem cyc_stay (rows : List (List Int)) (n k : Nat) (h0 : 0 ≤ (lab rows k).1 k) : cyc rows n (k + 1) = cyc rows n k := by
  have e : lab rows (k + 1) = lab rows k := by rw [lab, if_pos h0]
  unfold cyc
  rw [e]
theorem cyc_next (rows : List (List Int)) (n k : Nat) (hg : Gens rows n) (hk : k < n) (h0 : (lab rows k).1 k < 0) (V : List Nat) (hnd : V.Nodup) (hV : ∀ y, y ∈ V ↔ Rch rows k y) : cyc rows n (k + 1) = cyc rows n k ++ [(V.length : Int)] := by
  have e : lab rows (k + 1) = (fun y => if Rch rows k y then ((lab rows k).2 : Int) else (lab rows k).1 y, (lab rows k).2 + 1) := by rw [lab, if_neg (by omega)]
  have hok := lab_ok rows n k hg (by omega)
  unfold cyc
  rw [e]
  show (List.range ((lab rows k).2 + 1)).map (fun o => (cnt (fun y => if Rch rows k y then ((lab rows k).2 : Int) else (lab rows k).1 y) n o : Int)) = _
  rw [List.range_succ, List.map_append]
  congr 1
  · refine List.map_congr_left (fun o ho => ?_)
    have ho' := List.mem_range.1 ho
    congr 1
    refine cnt_congr _ _ _ _ (fun y _ => ?_)
    by_cases hr : Rch rows k y
    · rw [if_pos hr]
      have := lab_free hg hk h0 y hr
      constructor <;> intro h <;> omega
    · rw [if_neg hr]
  · simp only [List.map_cons, List.map_nil]
    congr 1
    congr 1
    refine cnt_list _ _ _ V hnd (fun y => ?_)
    rw [hV y]
    constructor
    · intro hr
      exact ⟨hg.stay hk hr, by rw [if_pos hr]⟩
    · rintro ⟨_, h⟩
      by_cases hr : Rch rows k y
      · exact hr
      · rw [if_neg hr] at h
        have := hok.lt y
        omega
end Go.Proofs.Ythkhkehpmolfaaa
namespace Go.Proofs.Ythkhkehpmolfaaa
open Go Go.RowKit
open Classical
set_option maxHeartbeats 2000000

theorem liInfo : (Try.prog.info? 2).map (fun i => (i.zero, i.size, i.bytes)) = some (some (.int .i64 0), 1, 8) := by kernel_rfl
theorem li_new {w : World} {v : Value} : ∀ j u, [v][j]? = some u → (w.alloc (.cells #[v] 2)).cell? ((⟨w.heap.size, 0, none⟩ : Addr).add j) = some u := by
  intro j u hj
  match j, hj with
  | 0, hj => simp at hj; subst hj; simp [Addr.add, World.cell?_alloc_new]
theorem li_one (w : World) (t : TypeId) (v : Value) : (w.alloc (.cells #[v] t)).ownsRow w.heap.size t 1 (.slice (some ⟨w.heap.size, 0, none⟩) 1 1) 1 [v] :=
  ⟨by simp, .inr ⟨w.heap.size, 1, #[v], rfl, Nat.le_refl _, heap_alloc_new _ _, Nat.le_refl _, by unfold maxLen; omega, by simp, by simp⟩⟩
/-- What is left of a row when its last element is cut off. -/
theorem own_front {w : World} {B n c : Nat} {t : TypeId} {A : Option Addr} {xs : List Value} (h : w.ownsRow B t 1 (.slice A (n + 1) c) (n + 1) xs) : w.ownsRow B t 1 (.slice A n c) n (xs.take n) := by
  obtain ⟨hl, h | ⟨g, cap, cur, hv, hb, hg, hn, hcap, hsz, hxs⟩⟩ := h
  · exact absurd h.2 (by omega)
  · injection hv with h1 h2 h3
    subst h1 h3
    refine ⟨by simp; omega, .inr ⟨g, c, cur, rfl, hb, hg, by omega, hcap, hsz, ?_⟩⟩
    rw [← hxs, List.take_take]
    congr 1
    omega
theorem own_setFar {w : World} {B n g j : Nat} {t : TypeId} {v u : Value} {xs : List Value} (h : w.ownsRow B t 1 v n xs) (hg : g < B) : (w.setCell ⟨g, j, none⟩ u).ownsRow B t 1 v n xs := by
  obtain ⟨hl, h | ⟨g', cap, cur, hv, hb, hg', hn, hcap, hsz, hxs⟩⟩ := h
  · exact ⟨hl, .inl h⟩
  · exact ⟨hl, .inr ⟨g', cap, cur, hv, hb, (Below.heap_setCell _ _ _ _ (by show g' ≠ g; omega)).trans hg', hn, hcap, hsz, hxs⟩⟩

/-- In the midst of a search: D have the label; those of D that wait are in the work; of x (none: n) the first r steps are done. -/
structure WInv (rows : List (List Int)) (n x0 : Nat) (f0 : Nat → Int) (D : List Nat) (work : List Int) (x : Nat) (r : Nat) : Prop where
  nd : D.Nodup
  rng : ∀ d ∈ D, d < n
  mem : x0 ∈ D
  rch : ∀ d ∈ D, Rch rows x0 d
  neg : ∀ d ∈ D, f0 d < 0
  wk : ∀ u ∈ work, ∃ d ∈ D, u = (d : Int)
  cl : ∀ d ∈ D, (d : Int) ∉ work → d ≠ x → ∀ s, s < rows.length → ((rows.getD s []).getD d 0).toNat ∈ D
  cx : x ∈ D → ∀ s, s < r → s < rows.length → ((rows.getD s []).getD x 0).toNat ∈ D

theorem natnd_le (D : List Nat) (n : Nat) (hr : ∀ v ∈ D, v < n) (hn : D.Nodup) : D.length ≤ n := by
  obtain ⟨l, hl⟩ := subset_perm D (List.range n) hn (fun a ha => List.mem_range.2 (hr a ha))
  have := hl.length_eq
  rw [List.length_range, List.length_append] at this
  omega
theorem WInv.most {rows : List (List Int)} {n x0 x r : Nat} {f0 : Nat → Int} {D : List Nat} {work : List Int} (h : WInv rows n x0 f0 D work x r) : D.length ≤ n := natnd_le D n h.rng h.nd
theorem WInv.start (rows : List (List Int)) (n x0 : Nat) (f0 : Nat → Int) (h : x0 < n) (h0 : f0 x0 < 0) : WInv rows n x0 f0 [x0] [(x0 : Int)] n 0 :=
  ⟨by simp, fun d hd => by simp at hd; omega, by simp, fun d hd => by simp at hd; subst hd; exact .start, fun d hd => by simp at hd; subst hd; exact h0, fun u hu => ⟨x0, by simp, by simpa using hu⟩, fun d hd hno => by simp at hd; subst hd; exact absurd (by simp) hno, fun hx => by simp at hx; omega⟩
theorem WInv.pop {rows : List (List Int)} {n x0 : Nat} {f0 : Nat → Int} {D : List Nat} {work : List Int} {x : Nat} (h : WInv rows n x0 f0 D (work ++ [(x : Int)]) n 0) : x ∈ D ∧ WInv rows n x0 f0 D work x 0 := by
  have hx : x ∈ D := by
    obtain ⟨d, hd, e⟩ := h.wk (x : Int) (by simp)
    have : x = d := by omega
    rw [this]; exact hd
  refine ⟨hx, h.nd, h.rng, h.mem, h.rch, h.neg, fun u hu => h.wk u (by simp [hu]), fun d hd hno hne => h.cl d hd ?_ (by have := h.rng d hd; omega), fun _ s hs => by omega⟩
  intro hm
  rcases List.mem_append.1 hm with hm | hm
  · exact hno hm
  · simp at hm; omega
theorem WInv.seen {rows : List (List Int)} {n x0 : Nat} {f0 : Nat → Int} {D : List Nat} {work : List Int} {x r : Nat} (h : WInv rows n x0 f0 D work x r) (hs : ((rows.getD r []).getD x 0).toNat ∈ D) : WInv rows n x0 f0 D work x (r + 1) :=
  ⟨h.nd, h.rng, h.mem, h.rch, h.neg, h.wk, h.cl, fun hx s hs2 hs3 => by
    by_cases e : s = r
    · subst e; exact hs
    · exact h.cx hx s (by omega) hs3⟩
theorem WInv.push {rows : List (List Int)} {n x0 : Nat} {f0 : Nat → Int} {D : List Nat} {work : List Int} {x r : Nat} (h : WInv rows n x0 f0 D work x r) (hx : x ∈ D) (hr : r < rows.length) (z : Nat) (hz : ((rows.getD r []).getD x 0).toNat = z) (hzn : z < n) (hno : z ∉ D) (hneg : f0 z < 0) : WInv rows n x0 f0 (D ++ [z]) (work ++ [(z : Int)]) x (r + 1) := by
  have hzx : z ≠ x := fun e => hno (e ▸ hx)
  refine ⟨?_, fun d hd => ?_, by simp [h.mem], fun d hd => ?_, fun d hd => ?_, fun u hu => ?_, fun d hd hnw hne s hs => ?_, fun _ s hs hs2 => ?_⟩
  · rw [List.nodup_append]
    exact ⟨h.nd, by simp, fun a ha b hb e => hno (by simp at hb; subst hb; subst e; exact ha)⟩
  · rcases List.mem_append.1 hd with hd | hd
    · exact h.rng d hd
    · simp at hd; omega
  · rcases List.mem_append.1 hd with hd | hd
    · exact h.rch d hd
    · simp at hd; subst hd; exact .step (h.rch x hx) ⟨r, hr, hz⟩
  · rcases List.mem_append.1 hd with hd | hd
    · exact h.neg d hd
    · simp at hd; subst hd; exact hneg
  · rcases List.mem_append.1 hu with hu | hu
    · obtain ⟨d, hd, e⟩ := h.wk u hu
      exact ⟨d, by simp [hd], e⟩
    · exact ⟨z, by simp, by simpa using hu⟩
  · rcases List.mem_append.1 hd with hd | hd
    · exact List.mem_append_left _ (h.cl d hd (fun e => hnw (by simp [e])) hne s hs)
    · simp at hd; subst hd; exact absurd (by simp) hnw
  · by_cases e : s = r
    · subst e; rw [hz]; simp
    · refine List.mem_append_left _ (h.cx hx s (by omega) hs2)
theorem WInv.next {rows : List (List Int)} {n x0 : Nat} {f0 : Nat → Int} {D : List Nat} {work : List Int} {x : Nat} (h : WInv rows n x0 f0 D work x rows.length) : WInv rows n x0 f0 D work n 0 :=
  ⟨h.nd, h.rng, h.mem, h.rch, h.neg, h.wk, fun d hd hno _ s hs => by
    by_cases e : d = x
    · subst e; exact h.cx hd s hs hs
    · exact h.cl d hd hno e s hs, fun _ s hs => by omega⟩
theorem WInv.done {rows : List (List Int)} {n x0 : Nat} {f0 : Nat → Int} {D : List Nat} (h : WInv rows n x0 f0 D [] n 0) (y : Nat) : y ∈ D ↔ Rch rows x0 y := by
  constructor
  · exact h.rch y
  · intro hy
    induction hy with
    | start => exact h.mem
    | step _ hs ih =>
      obtain ⟨r, hr, hz⟩ := hs
      rw [← hz]
      exact h.cl _ ih (by simp) (by have := h.rng _ ih; omega) r hr

/-- The labels when D have got theirs. -/
noncomputable def putD (f : Nat → Int) (D : List Nat) (l : Int) : Nat → Int := fun y => if y ∈ D then l else f y
theorem putD_step (f : Nat → Int) (D : List Nat) (l : Int) (n z : Nat) : ((List.range n).map (putD f D l)).set z l = (List.range n).map (putD f (D ++ [z]) l) := by
  apply List.ext_getElem
  · simp
  · intro y h1 h2
    rw [List.getElem_set]
    simp only [List.getElem_map, List.getElem_range]
    unfold putD
    by_cases e : z = y
    · subst e; simp
    · have e2 : ¬ y = z := fun h => e h.symm
      simp [e, e2]
end Go.Proofs.Ythkhkehpmolfaaa
