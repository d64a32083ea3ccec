import Derived.Test.YtaejgmdeiemhcabZk
import Derived.Test.YtaejgmdeiemhcabZj
import Derived.Test.YtaejgmdeiemhcabZi
import Derived.Test.YtaejgmdeiemhcabZb
import Derived.Test.YtaejgmdeiemhcabZg
import Derived.Test.YtaejgmdeiemhcabZd
namespace Go.Proofs.Ytaejgmdeiemhcab
open Go Go.RowKit
open Classical
/-- A nondegenerate solution. -/
def NdS (f s : List (List Int)) : Prop := SolF f s ∧ NonF f s
theorem NdS.map {f s : List (List Int)} (h : NdS f s) : PMap f s := h.1.1
theorem NdS.sizes {f s : List (List Int)} {n : Nat} (h : NdS f s) (hn : f.length = n) : 1 ≤ n ∧ n ≤ 12 ∧ s.length = n := by
  have h1 := h.map.1.1
  have h2 := h.map.1.2.1
  have h3 := h.map.2.2
  exact ⟨by omega, by omega, by omega⟩
theorem NdS.lam {f s : List (List Int)} {n : Nat} (h : NdS f s) (hn : f.length = n) : Gens f n := fun i hi => ⟨by rw [h.map.1.rows i hi, hn], h.2.1 i hi⟩
theorem turn_len {s : List (List Int)} {n : Nat} (hn : s.length = n) (i : Nat) (hi : i < (turnL s).length) : ((turnL s).getD i []).length = n := by
  rw [turnL_length] at hi
  unfold turnL
  rw [grid_row_length _ _ _ hi, hn]
theorem NdS.rho {f s : List (List Int)} {n : Nat} (h : NdS f s) (hn : f.length = n) : Gens (turnL s) n := fun i hi => ⟨turn_len (h.sizes hn).2.2 i hi, h.2.2 i hi⟩
/-- All lambda and all rho. -/
def bothL (f s : List (List Int)) : List (List Int) := f ++ turnL s
theorem bothL_length {f s : List (List Int)} {n m : Nat} (hn : f.length = n) (hm : s.length = m) : (bothL f s).length = n + m := by
  unfold bothL
  rw [List.length_append, turnL_length, hn, hm]
theorem bothL_fst {f s : List (List Int)} {n : Nat} (hn : f.length = n) (i : Nat) (hi : i < n) : (bothL f s).getD i [] = f.getD i [] := by
  have : i < f.length := by omega
  simp [bothL, List.getElem?_append, this]
theorem bothL_snd {f s : List (List Int)} {n : Nat} (hn : f.length = n) (i : Nat) : (bothL f s).getD (n + i) [] = (turnL s).getD i [] := by
  have h : ¬ n + i < f.length := by omega
  have e : n + i - f.length = i := by omega
  simp [bothL, List.getElem?_append, h, e]
theorem NdS.both {f s : List (List Int)} {n : Nat} (h : NdS f s) (hn : f.length = n) : Gens (bothL f s) n := by
  intro r hr
  have hsn := (h.sizes hn).2.2
  rw [bothL_length hn hsn] at hr
  by_cases hlt : r < n
  · rw [bothL_fst hn r hlt]
    exact h.lam hn r (by omega)
  · obtain ⟨i, rfl⟩ : ∃ i, r = n + i := ⟨r - n, by omega⟩
    rw [bothL_snd hn]
    exact h.rho hn i (by rw [turnL_length]; omega)
/-- A list of rows that is told of what is good. -/
def TRes7 (good : Prop) (rows : List (List Int)) (zs : List (List Int)) (code : Int) : Prop := (good ∧ zs = rows ∧ code = 0) ∨ (¬ good ∧ zs = [] ∧ code = 1)
def LamRes (f s : List (List Int)) : List (List Int) → Int → Prop := TRes7 (NdS f s) f
def RhoRes (f s : List (List Int)) : List (List Int) → Int → Prop := TRes7 (NdS f s) (turnL s)
theorem LamRes.ex (f s : List (List Int)) : ∃ zs code, LamRes f s zs code ∧ zs.length ≤ 1048576 ∧ ∀ i, i < zs.length → (zs.getD i []).length ≤ 1048576 := by
  by_cases h : NdS f s
  · have h1 := h.sizes rfl
    exact ⟨_, _, .inl ⟨h, rfl, rfl⟩, by omega, fun i hi => by rw [(h.lam rfl i hi).1]; omega⟩
  · exact ⟨_, _, .inr ⟨h, rfl, rfl⟩, by simp, by simp⟩
theorem RhoRes.ex (f s : List (List Int)) : ∃ zs code, RhoRes f s zs code ∧ zs.length ≤ 1048576 ∧ ∀ i, i < zs.length → (zs.getD i []).length ≤ 1048576 := by
  by_cases h : NdS f s
  · have h1 := h.sizes rfl
    exact ⟨_, _, .inl ⟨h, rfl, rfl⟩, by rw [turnL_length]; omega, fun i hi => by rw [(h.rho rfl i hi).1]; omega⟩
  · exact ⟨_, _, .inr ⟨h, rfl, rfl⟩, by simp, by simp⟩
/-- A list of numbers that is told of what is good. -/
def RRes7 (good : Prop) (row : List Int) (zs : List Int) (code : Int) : Prop := (good ∧ zs = row ∧ code = 0) ∨ (¬ good ∧ zs = [] ∧ code = 1)
theorem RRes7.ex (good : Prop) (row : List Int) (h : good → row.length ≤ 1048576) : ∃ zs code, RRes7 good row zs code ∧ zs.length ≤ 1048576 := by
  by_cases hg : good
  · exact ⟨_, _, .inl ⟨hg, rfl, rfl⟩, h hg⟩
  · exact ⟨_, _, .inr ⟨hg, rfl, rfl⟩, by simp⟩
/-- The numbers of the orbits. -/
noncomputable def orbS (f s : List (List Int)) : List Int := labL (bothL f s) f.length f.length
noncomputable def orbN (f s : List (List Int)) : Nat := (lab (bothL f s) f.length).2
def OsRes7 (f s : List (List Int)) : List Int → Int → Prop := RRes7 (NdS f s) (orbS f s)
theorem OsRes7.ex (f s : List (List Int)) : ∃ zs code, OsRes7 f s zs code ∧ zs.length ≤ 1048576 := RRes7.ex _ _ (fun h => by unfold orbS; rw [labL_length]; have := h.sizes rfl; omega)
def IndRes (f s : List (List Int)) : Bool → Int → Prop := BRes (NdS f s) (orbN f s = 1)
theorem IndRes.ex (f s : List (List Int)) : ∃ r code, IndRes f s r code := BRes.ex _ _
/-- The order of a group of permutations of a solution. -/
def OrdR7 (good : Prop) (n : Nat) (rows : List (List Int)) (v code : Int) : Prop := (good ∧ OrdR n rows 1000 3 v code) ∨ (¬ good ∧ v = 0 ∧ code = 1)
theorem OrdR7.ex (good : Prop) (n : Nat) (rows : List (List Int)) : ∃ v code, OrdR7 good n rows v code := by
  by_cases h : good
  · obtain ⟨v, code, h2⟩ := OrdR.ex n rows 1000 3
    exact ⟨v, code, .inl ⟨h, h2⟩⟩
  · exact ⟨0, 1, .inr ⟨h, rfl, rfl⟩⟩
def LgoRes (f s : List (List Int)) : Int → Int → Prop := OrdR7 (NdS f s) f.length f
def RgoRes (f s : List (List Int)) : Int → Int → Prop := OrdR7 (NdS f s) f.length (turnL s)
def WgoRes (f s : List (List Int)) : Int → Int → Prop := OrdR7 (NdS f s) f.length (bothL f s)
theorem LgoRes.ex (f s : List (List Int)) : ∃ v code, LgoRes f s v code := OrdR7.ex _ _ _
theorem RgoRes.ex (f s : List (List Int)) : ∃ v code, RgoRes f s v code := OrdR7.ex _ _ _
theorem WgoRes.ex (f s : List (List Int)) : ∃ v code, WgoRes f s v code := OrdR7.ex _ _ _
/-- Any two lambda commute. -/
def ComF (f : List (List Int)) : Prop := ∀ i, i < f.length → ∀ j, j < i → thenL (f.getD i []) (f.getD j []) = thenL (f.getD j []) (f.getD i [])
def AbRes (f s : List (List Int)) : Bool → Int → Prop := BRes (NdS f s) (ComF f)
theorem AbRes.ex (f s : List (List Int)) : ∃ r code, AbRes f s r code := BRes.ex _ _
end Go.Proofs.Ytaejgmdeiemhcab
namespace Go.Proofs.Ytaejgmdeiemhcab
open Go Go.RowKit
open Classical
/-- A block that is a map. -/
def IsMapB (w : World) (b : Nat) : Prop := ∃ es clock, w.heap[b]? = some (.map es clock)
theorem MapK.isMap {K : TypeId} {w : World} {b n : Nat} {V : Value → Option Value} (h : MapK K w b n V) : IsMapB w b := by
  obtain ⟨D, ⟨es, clock, hb, _⟩, _⟩ := h
  exact ⟨es, clock, hb⟩
/-- What is a block of cells stays where only a map is written. -/
theorem off_cells {w w' : World} {b k : Nat} {cs : Array Value} {t : TypeId} {fr : Nat × Nat} (hm : IsMapB w b) (hg : w.grownBy w' (some b)) (e : w.heap[k]? = some (.cells cs t fr)) : w'.heap[k]? = some (.cells cs t fr) := by
  obtain ⟨es, clock, hb⟩ := hm
  rw [hg.block k (Array.getElem?_eq_some_iff.1 e).1 (fun e2 => by injection e2 with e2; subst e2; rw [hb] at e; cases e)]
  exact e
theorem LstV.off {ts t : TypeId} {B : Nat} {w w' : World} {v : Value} {rows : List (List Int)} {vals : List Value} {b : Nat} (h : LstV ts t B w v rows vals) (hm : IsMapB w b) (hg : w.grownBy w' (some b)) : LstV ts t B w' v rows vals := by
  refine ⟨?_, fun i hi => ?_, h.ne⟩
  · obtain ⟨h1, h2⟩ := h.own
    refine ⟨h1, ?_⟩
    rcases h2 with h2 | ⟨g, cap, cur, hv, hg', hh, r⟩
    · exact .inl h2
    · exact .inr ⟨g, cap, cur, hv, hg', off_cells hm hg hh, r⟩
  · obtain ⟨A, c, h1, h2⟩ := h.row i hi
    refine ⟨A, c, h1, ?_⟩
    rcases h2 with h2 | ⟨g, e, a, b', cur, hc, r⟩
    · exact .inl h2
    · exact .inr ⟨g, e, a, Nat.lt_of_lt_of_le b' hg.size, cur, off_cells hm hg hc, r⟩
/-- A map stays where a list of slices grows. -/
theorem MapK.off {K ts t : TypeId} {B n : Nat} {w w' : World} {v : Value} {rows : List (List Int)} {vals : List Value} {b : Nat} {V : Value → Option Value} {tmp : Obj} (h : MapK K w b n V) (hl : LstV ts t B w v rows vals) (hg : (w.alloc tmp).grownBy w' v.ownBlock) : MapK K w' b n V := by
  obtain ⟨es, clock, hb⟩ := h.isMap
  have hlt := h.lt
  refine h.of_block ?_
  have ha : (w.alloc tmp).heap[b]? = w.heap[b]? := ((Below.refl w.heap.size w).alloc (Nat.le_refl _) tmp).block b hlt
  rw [← ha]
  refine hg.block b (by simp; omega) (fun e => ?_)
  obtain ⟨_, h2⟩ := hl.own
  rcases h2 with ⟨hv, _⟩ | ⟨g, cap, cur, hv, _, hh, _⟩
  · subst hv; simp [Value.ownBlock] at e
  · subst hv
    simp [Value.ownBlock] at e
    subst e
    rw [hb] at hh
    cases hh
theorem dg_fin : ∀ a b : Fin 12, UInt8.ofNat (dg (a.val : Int)).toNat = UInt8.ofNat (dg (b.val : Int)).toNat → a = b := by decide
theorem dg_inj {x y : Int} (hx : 0 ≤ x ∧ x < 12) (hy : 0 ≤ y ∧ y < 12) (e : UInt8.ofNat (dg x).toNat = UInt8.ofNat (dg y).toNat) : x = y := by
  obtain ⟨a, rfl⟩ : ∃ a : Nat, x = (a : Int) := ⟨x.toNat, by omega⟩
  obtain ⟨b, rfl⟩ : ∃ b : Nat, y = (b : Int) := ⟨y.toNat, by omega⟩
  have h := dg_fin ⟨a, by omega⟩ ⟨b, by omega⟩ e
  injection h with h
  rw [h]
theorem dgs_inj : ∀ (p q : List Int), (∀ x ∈ p, 0 ≤ x ∧ x < 12) → (∀ x ∈ q, 0 ≤ x ∧ x < 12) → p.map (fun x => UInt8.ofNat (dg x).toNat) = q.map (fun x => UInt8.ofNat (dg x).toNat) → p = q
  | [], [], _, _, _ => rfl
  | [], y :: q, _, _, e => by simp at e
  | x :: p, [], _, _, e => by simp at e
  | x :: p, y :: q, hp, hq, e => by
    simp only [List.map_cons, List.cons.injEq] at e
    rw [dg_inj (hp x (by simp)) (hq y (by simp)) e.1, dgs_inj p q (fun z hz => hp z (by simp [hz])) (fun z hz => hq z (by simp [hz])) e.2]
theorem lineS_inj {p q : List Int} (hp : ∀ x ∈ p, 0 ≤ x ∧ x < 12) (hq : ∀ x ∈ q, 0 ≤ x ∧ x < 12) (e : lineS p = lineS q) : p = q := by
  refine dgs_inj p q hp hq ?_
  have h := congrArg (fun b : ByteArray => b.data.toList) e
  simpa [lineS, lineL, strOfNums, Function.comp_def] using h
/-- The texts of the permutations that were found. -/
noncomputable def seenV (found : List (List Int)) : Value → Option Value := fun k => if ∃ p, p ∈ found ∧ k = .string (lineS p) then some (.bool true) else none
theorem seenV_at {found : List (List Int)} {q : List Int} (hf : ∀ p, p ∈ found → ∀ x ∈ p, 0 ≤ x ∧ x < 12) (hq : ∀ x ∈ q, 0 ≤ x ∧ x < 12) : (seenV found (.string (lineS q))).getD (.bool false) = .bool (decide (q ∈ found)) := by
  unfold seenV
  by_cases h : q ∈ found
  · rw [if_pos ⟨q, h, rfl⟩]; simp [h]
  · rw [if_neg]
    · simp [h]
    · rintro ⟨p, hp, e⟩
      injection e with e
      exact h (lineS_inj hq (hf p hp) e ▸ hp)
theorem seenV_add (found : List (List Int)) (q : List Int) (k : Value) : (if k = .string (lineS q) then some (.bool true) else seenV found k) = seenV (found ++ [q]) k := by
  unfold seenV
  by_cases h : k = .string (lineS q)
  · rw [if_pos h, if_pos ⟨q, by simp, h⟩]
  · rw [if_neg h]
    by_cases h2 : ∃ p, p ∈ found ∧ k = .string (lineS p)
    · rw [if_pos h2]
      obtain ⟨p, hp, e⟩ := h2
      rw [if_pos ⟨p, by simp [hp], e⟩]
    · rw [if_neg h2, if_neg]
      rintro ⟨p, hp, e⟩
      rcases List.mem_append.1 hp with hp | hp
      · exact h2 ⟨p, hp, e⟩
      · simp at hp; subst hp; exact h e
end Go.Proofs.Ytaejgmdeiemhcab
