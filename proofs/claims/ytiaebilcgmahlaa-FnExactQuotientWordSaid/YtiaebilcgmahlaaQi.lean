import Derived.Test.YtiaebilcgmahlaaQg
import Derived.Test.YtiaebilcgmahlaaQa
import Derived.Test.YtiaebilcgmahlaaQd
import Derived.Test.YtiaebilcgmahlaaQb
import Derived.Test.YtiaebilcgmahlaaQf
import Derived.Test.YtiaebilcgmahlaaQe
import Derived.Test.YtiaebilcgmahlaaQc
import Derived.Test.YtiaebilcgmahlaaQh
import Derived.Deep.DeepCutAuto
namespace Go.Proofs.Ytiaebilcgmahlaa
open Go Go.RowKit
open Classical
/-- A block that is a map. -/
def IsMapB (w : World) (b : Nat) : Prop := ∃ es clock, w.heap[b]? = some (.map es clock)
theorem MapK.isMap {K : TypeId} {w : World} {b n : Nat} {V : Value → Option Value} (h : MapK K w b n V) : IsMapB w b := by
  obtain ⟨D, ⟨es, clock, hb, _⟩, _⟩ := h
  exact ⟨es, clock, hb⟩
/-- What is a block of cells stays where only a map is written. -/
theorem off_cells {w w' : World} {b k : Nat} {cs : Array Value} {t : TypeId} {fr : Nat × Nat} (hm : IsMapB w b) (hg : w.grownBy w' (some b)) (e : w.heap[k]? = some (.cells cs t fr)) : w'.heap[k]? = some (.cells cs t fr) := by
  obtain ⟨es, clock, hb⟩ := hm
  rw [hg.block k (Array.getElem?_eq_some_iff.1 e).1 (fun e2 => by injection e2 with e2; subst e2; rw [hb] at e; cases e)]
  exact e
theorem LstV.off {ts t : TypeId} {B : Nat} {w w' : World} {v : Value} {rows : List (List Int)} {vals : List Value} {b : Nat} (h : LstV ts t B w v rows vals) (hm : IsMapB w b) (hg : w.grownBy w' (some b)) : LstV ts t B w' v rows vals := by
  refine ⟨?_, fun i hi => ?_, h.ne⟩
  · obtain ⟨h1, h2⟩ := h.own
    refine ⟨h1, ?_⟩
    rcases h2 with h2 | ⟨g, cap, cur, hv, hg', hh, r⟩
    · exact .inl h2
    · exact .inr ⟨g, cap, cur, hv, hg', off_cells hm hg hh, r⟩
  · obtain ⟨A, c, h1, h2⟩ := h.row i hi
    refine ⟨A, c, h1, ?_⟩
    rcases h2 with h2 | ⟨g, e, a, b', cur, hc, r⟩
    · exact .inl h2
    · exact .inr ⟨g, e, a, Nat.lt_of_lt_of_le b' hg.size, cur, off_cells hm hg hc, r⟩
/-- A map stays where a list of slices grows. -/
theorem MapK.off {K ts t : TypeId} {B n : Nat} {w w' : World} {v : Value} {rows : List (List Int)} {vals : List Value} {b : Nat} {V : Value → Option Value} {tmp : Obj} (h : MapK K w b n V) (hl : LstV ts t B w v rows vals) (hg : (w.alloc tmp).grownBy w' v.ownBlock) : MapK K w' b n V := by
  obtain ⟨es, clock, hb⟩ := h.isMap
  have hlt := h.lt
  refine h.of_block ?_
  have ha : (w.alloc tmp).heap[b]? = w.heap[b]? := ((Below.refl w.heap.size w).alloc (Nat.le_refl _) tmp).block b hlt
  rw [← ha]
  refine hg.block b (by simp; omega) (fun e => ?_)
  obtain ⟨_, h2⟩ := hl.own
  rcases h2 with ⟨hv, _⟩ | ⟨g, cap, cur, hv, _, hh, _⟩
  · subst hv; simp [Value.ownBlock] at e
  · subst hv
    simp [Value.ownBlock] at e
    subst e
    rw [hb] at hh
    cases hh
theorem dg_fin : ∀ a b : Fin 12, UInt8.ofNat (dg (a.val : Int)).toNat = UInt8.ofNat (dg (b.val : Int)).toNat → a = b := by decide
theorem dg_inj {x y : Int} (hx : 0 ≤ x ∧ x < 12) (hy : 0 ≤ y ∧ y < 12) (e : UInt8.ofNat (dg x).toNat = UInt8.ofNat (dg y).toNat) : x = y := by
  obtain ⟨a, rfl⟩ : ∃ a : Nat, x = (a : Int) := ⟨x.toNat, by omega⟩
  obtain ⟨b, rfl⟩ : ∃ b : Nat, y = (b : Int) := ⟨y.toNat, by omega⟩
  have h := dg_fin ⟨a, by omega⟩ ⟨b, by omega⟩ e
  injection h with h
  rw [h]
theorem dgs_inj : ∀ (p q : List Int), (∀ x ∈ p, 0 ≤ x ∧ x < 12) → (∀ x ∈ q, 0 ≤ x ∧ x < 12) → p.map (fun x => UInt8.ofNat (dg x).toNat) = q.map (fun x => UInt8.ofNat (dg x).toNat) → p = q
  | [], [], _, _, _ => rfl
  | [], y :: q, _, _, e => by simp at e
  | x :: p, [], _, _, e => by simp at e
  | x :: p, y :: q, hp, hq, e => by
    simp only [List.map_cons, List.cons.injEq] at e
    rw [dg_inj (hp x (by simp)) (hq y (by simp)) e.1, dgs_inj p q (fun z hz => hp z (by simp [hz])) (fun z hz => hq z (by simp [hz])) e.2]
theorem lineS_inj {p q : List Int} (hp : ∀ x ∈ p, 0 ≤ x ∧ x < 12) (hq : ∀ x ∈ q, 0 ≤ x ∧ x < 12) (e : lineS p = lineS q) : p = q := by
  refine dgs_inj p q hp hq ?_
  have h := congrArg (fun b : ByteArray => b.data.toList) e
  simpa [lineS, lineL, strOfNums, Function.comp_def] using h
/-- The texts of the permutations that were found. -/
noncomputable def seenV (found : List (List Int)) : Value → Option Value := fun k => if ∃ p, p ∈ found ∧ k = .string (lineS p) then some (.bool true) else none
theorem seenV_at {found : List (List Int)} {q : List Int} (hf : ∀ p, p ∈ found → ∀ x ∈ p, 0 ≤ x ∧ x < 12) (hq : ∀ x ∈ q, 0 ≤ x ∧ x < 12) : (seenV found (.string (lineS q))).getD (.bool false) = .bool (decide (q ∈ found)) := by
  unfold seenV
  by_cases h : q ∈ found
  · rw [if_pos ⟨q, h, rfl⟩]; simp [h]
  · rw [if_neg]
    · simp [h]
    · rintro ⟨p, hp, e⟩
      injection e with e
      exact h (lineS_inj hq (hf p hp) e ▸ hp)
theorem seenV_add (found : List (List Int)) (q : List Int) (k : Value) : (if k = .string (lineS q) then some (.bool true) else seenV found k) = seenV (found ++ [q]) k := by
  unfold seenV
  by_cases h : k = .string (lineS q)
  · rw [if_pos h, if_pos ⟨q, by simp, h⟩]
  · rw [if_neg h]
    by_cases h2 : ∃ p, p ∈ found ∧ k = .string (lineS p)
    · rw [if_pos h2]
      obtain ⟨p, hp, e⟩ := h2
      rw [if_pos ⟨p, by simp [hp], e⟩]
    · rw [if_neg h2, if_neg]
      rintro ⟨p, hp, e⟩
      rcases List.mem_append.1 hp with hp | hp
      · exact h2 ⟨p, hp, e⟩
      · simp at hp; subst hp; exact h e
end Go.Proofs.Ytiaebilcgmahlaa
namespace Go.Proofs.Ytiaebilcgmahlaa
open Go Go.RowKit
open Classical
/-- A nondegenerate solution. -/
def NdS (f s : List (List Int)) : Prop := SolF f s ∧ NonF f s
theorem NdS.map {f s : List (List Int)} (h : NdS f s) : PMap f s := h.1.1
theorem NdS.sizes {f s : List (List Int)} {n : Nat} (h : NdS f s) (hn : f.length = n) : 1 ≤ n ∧ n ≤ 12 ∧ s.length = n := by
  have h1 := h.map.1.1
  have h2 := h.map.1.2.1
  have h3 := h.map.2.2
  exact ⟨by omega, by omega, by omega⟩
theorem NdS.lam {f s : List (List Int)} {n : Nat} (h : NdS f s) (hn : f.length = n) : Gens f n := fun i hi => ⟨by rw [h.map.1.rows i hi, hn], h.2.1 i hi⟩
theorem turn_len {s : List (List Int)} {n : Nat} (hn : s.length = n) (i : Nat) (hi : i < (turnL s).length) : ((turnL s).getD i []).length = n := by
  rw [turnL_length] at hi
  unfold turnL
  rw [grid_row_length _ _ _ hi, hn]
theorem NdS.rho {f s : List (List Int)} {n : Nat} (h : NdS f s) (hn : f.length = n) : Gens (turnL s) n := fun i hi => ⟨turn_len (h.sizes hn).2.2 i hi, h.2.2 i hi⟩
/-- All lambda and all rho. -/
def bothL (f s : List (List Int)) : List (List Int) := f ++ turnL s
theorem bothL_length {f s : List (List Int)} {n m : Nat} (hn : f.length = n) (hm : s.length = m) : (bothL f s).length = n + m := by
  unfold bothL
  rw [List.length_append, turnL_length, hn, hm]
theorem bothL_fst {f s : List (List Int)} {n : Nat} (hn : f.length = n) (i : Nat) (hi : i < n) : (bothL f s).getD i [] = f.getD i [] := by
  have : i < f.length := by omega
  simp [bothL, List.getElem?_append, this]
theorem bothL_snd {f s : List (List Int)} {n : Nat} (hn : f.length = n) (i : Nat) : (bothL f s).getD (n + i) [] = (turnL s).getD i [] := by
  have h : ¬ n + i < f.length := by omega
  have e : n + i - f.length = i := by omega
  simp [bothL, List.getElem?_append, h, e]
theorem NdS.both {f s : List (List Int)} {n : Nat} (h : NdS f s) (hn : f.length = n) : Gens (bothL f s) n := by
  intro r hr
  have hsn := (h.sizes hn).2.2
  rw [bothL_length hn hsn] at hr
  by_cases hlt : r < n
  · rw [bothL_fst hn r hlt]
    exact h.lam hn r (by omega)
  · obtain ⟨i, rfl⟩ : ∃ i, r = n + i := ⟨r - n, by omega⟩
    rw [bothL_snd hn]
    exact h.rho hn i (by rw [turnL_length]; omega)
/-- A list of rows that is told of what is good. -/
def TRes7 (good : Prop) (rows : List (List Int)) (zs : List (List Int)) (code : Int) : Prop := (good ∧ zs = rows ∧ code = 0) ∨ (¬ good ∧ zs = [] ∧ code = 1)
def LamRes (f s : List (List Int)) : List (List Int) → Int → Prop := TRes7 (NdS f s) f
def RhoRes (f s : List (List Int)) : List (List Int) → Int → Prop := TRes7 (NdS f s) (turnL s)
theorem LamRes.ex (f s : List (List Int)) : ∃ zs code, LamRes f s zs code ∧ zs.length ≤ 1048576 ∧ ∀ i, i < zs.length → (zs.getD i []).length ≤ 1048576 := by
  by_cases h : NdS f s
  · have h1 := h.sizes rfl
    exact ⟨_, _, .inl ⟨h, rfl, rfl⟩, by omega, fun i hi => by rw [(h.lam rfl i hi).1]; omega⟩
  · exact ⟨_, _, .inr ⟨h, rfl, rfl⟩, by simp, by simp⟩
theorem RhoRes.ex (f s : List (List Int)) : ∃ zs code, RhoRes f s zs code ∧ zs.length ≤ 1048576 ∧ ∀ i, i < zs.length → (zs.getD i []).length ≤ 1048576 := by
  by_cases h : NdS f s
  · have h1 := h.sizes rfl
    exact ⟨_, _, .inl ⟨h, rfl, rfl⟩, by rw [turnL_length]; omega, fun i hi => by rw [(h.rho rfl i hi).1]; omega⟩
  · exact ⟨_, _, .inr ⟨h, rfl, rfl⟩, by simp, by simp⟩
/-- A list of numbers that is told of what is good. -/
def RRes7 (good : Prop) (row : List Int) (zs : List Int) (code : Int) : Prop := (good ∧ zs = row ∧ code = 0) ∨ (¬ good ∧ zs = [] ∧ code = 1)
theorem RRes7.ex (good : Prop) (row : List Int) (h : good → row.length ≤ 1048576) : ∃ zs code, RRes7 good row zs code ∧ zs.length ≤ 1048576 := by
  by_cases hg : good
  · exact ⟨_, _, .inl ⟨hg, rfl, rfl⟩, h hg⟩
  · exact ⟨_, _, .inr ⟨hg, rfl, rfl⟩, by simp⟩
/-- The numbers of the orbits. -/
noncomputable def orbS (f s : List (List Int)) : List Int := labL (bothL f s) f.length f.length
noncomputable def orbN (f s : List (List Int)) : Nat := (lab (bothL f s) f.length).2
def OsRes7 (f s : List (List Int)) : List Int → Int → Prop := RRes7 (NdS f s) (orbS f s)
theorem OsRes7.ex (f s : List (List Int)) : ∃ zs code, OsRes7 f s zs code ∧ zs.length ≤ 1048576 := RRes7.ex _ _ (fun h => by unfold orbS; rw [labL_length]; have := h.sizes rfl; omega)
def IndRes (f s : List (List Int)) : Bool → Int → Prop := BRes (NdS f s) (orbN f s = 1)
theorem IndRes.ex (f s : List (List Int)) : ∃ r code, IndRes f s r code := BRes.ex _ _
/-- The order of a group of permutations of a solution. -/
def OrdR7 (good : Prop) (n : Nat) (rows : List (List Int)) (v code : Int) : Prop := (good ∧ OrdR n rows 1000 3 v code) ∨ (¬ good ∧ v = 0 ∧ code = 1)
theorem OrdR7.ex (good : Prop) (n : Nat) (rows : List (List Int)) : ∃ v code, OrdR7 good n rows v code := by
  by_cases h : good
  · obtain ⟨v, code, h2⟩ := OrdR.ex n rows 1000 3
    exact ⟨v, code, .inl ⟨h, h2⟩⟩
  · exact ⟨0, 1, .inr ⟨h, rfl, rfl⟩⟩
def LgoRes (f s : List (List Int)) : Int → Int → Prop := OrdR7 (NdS f s) f.length f
def RgoRes (f s : List (List Int)) : Int → Int → Prop := OrdR7 (NdS f s) f.length (turnL s)
def WgoRes (f s : List (List Int)) : Int → Int → Prop := OrdR7 (NdS f s) f.length (bothL f s)
theorem LgoRes.ex (f s : List (List Int)) : ∃ v code, LgoRes f s v code := OrdR7.ex _ _ _
theorem RgoRes.ex (f s : List (List Int)) : ∃ v code, RgoRes f s v code := OrdR7.ex _ _ _
theorem WgoRes.ex (f s : List (List Int)) : ∃ v code, WgoRes f s v code := OrdR7.ex _ _ _
/-- Any two lambda commute. -/
def ComF (f : List (List Int)) : Prop := ∀ i, i < f.length → ∀ j, j < i → thenL (f.getD i []) (f.getD j []) = thenL (f.getD j []) (f.getD i [])
def AbRes (f s : List (List Int)) : Bool → Int → Prop := BRes (NdS f s) (ComF f)
theorem AbRes.ex (f s : List (List Int)) : ∃ r code, AbRes f s r code := BRes.ex _ _
end Go.Proofs.Ytiaebilcgmahlaa
namespace Go.Proofs.Ytiaebilcgmahlaa
open Go Go.RowKit
set_option maxHeartbeats 1000000

/-- Block b begins with three elements. -/
def L3 (w : World) (b x y z : Nat) : Prop := b < w.heap.size ∧ w.cell? ⟨b, 0, none⟩ = some (.int .i64 x) ∧ w.cell? ⟨b, 1, none⟩ = some (.int .i64 y) ∧ w.cell? ⟨b, 2, none⟩ = some (.int .i64 z)
theorem L3.later {w w' : World} {b x y z : Nat} (h : L3 w b x y z) (hb : Below w.heap.size w w') : L3 w' b x y z :=
  ⟨Nat.lt_of_lt_of_le h.1 hb.size, (hb.cell (p := ⟨b, 0, none⟩) h.1).trans h.2.1, (hb.cell (p := ⟨b, 1, none⟩) h.1).trans h.2.2.1, (hb.cell (p := ⟨b, 2, none⟩) h.1).trans h.2.2.2⟩
theorem L3.of_own {t : TypeId} {w : World} {g x y z : Nat} {xs : List Int} (h : OwnB t w g xs) (hx : xs = lst3 (x, y, z)) : L3 w g x y z := by
  subst hx
  exact ⟨h.lt, h.cell (i := 0) (by simp [lst3]), h.cell (i := 1) (by simp [lst3]), h.cell (i := 2) (by simp [lst3])⟩
theorem L3.own {w : World} {b x y z : Nat} (h : L3 w b x y z) : ∀ i, i < (lst3 (x, y, z)).length → w.cell? ⟨b, 0 + i, none⟩ = some (.int .i64 ((lst3 (x, y, z)).getD i 0)) := by
  intro i hi
  simp [lst3] at hi
  rcases i with _ | _ | _ | i
  · exact h.2.1
  · exact h.2.2.1
  · exact h.2.2.2
  · omega
theorem L3.rd {w : World} {b x y z : Nat} (h : L3 w b x y z) : Rd w (some ⟨b, 0, none⟩) (lst3 (x, y, z)) := fun _ => ⟨b, 0, rfl, h.1, h.own⟩

set_option maxRecDepth 100000 in
theorem do0_any (A : Option Addr) (n c : Nat) (f : List (List Int)) (B : Option Addr) (m d : Nat) (s : List (List Int)) (bc e : Nat) (x y z x' y' z' : Nat) (w : World) (hz : ZArg 1048576 w A n f B m s) (hp : PMap f s) (hi3 : In3 n (x, y, z)) (hdo : doAt f s 0 (x, y, z) = (x', y', z')) (hl : L3 w bc x y z) :
    Calls Try.prog 106 #[.agg #[.slice A n c, .slice B m d], .slice (some ⟨bc, 0, none⟩) 3 e, .int .i64 0] w fun e w' => ∃ g cap, e = .returned (.slice (some ⟨g, 0, none⟩) 3 cap) ∧ Below w.heap.size w w' ∧ w.heap.size ≤ g ∧ L3 w' g x' y' z' := by
  have HZ := hide hz
  have HP := hide hp
  have hnb := hz.sz.nb
  have hx : x < n := hi3.1
  have hy : y < n := hi3.2.1
  have hz' : z < n := hi3.2.2
  obtain rfl := hz.same hp
  have HL := hide hl
  have hbc := hl.1
  have HB0 := hide ((Below.refl _ w).alloc (Nat.le_refl _) (Obj.cells #[Value.slice A m c, Value.slice B m d] 29))
  have HK0 := hide (Blk.new w 29 [.slice A m c, .slice B m d])
  obtain ⟨u, hu⟩ : ∃ u, ap f x y = u := ⟨_, rfl⟩
  obtain ⟨v, hv⟩ : ∃ v, ap s x y = v := ⟨_, rfl⟩
  have hdo' : (u, v, z) = (x', y', z') := by rw [← hdo, ← hu, ← hv]; rfl
  injection hdo' with d1 d2
  injection d2 with d2 d3
  subst d1
  subst d2
  subst d3
  have HU := hide hu
  have HV := hide hv
  clear hz hp hl hi3 hdo hu hv
  go_enter Try.func106, Try.ntmps106
  go_wp2_with fail
  refine (own_any bc 0 3 e (lst3 (x, y, z)) _ rfl (by omega) (by have := HB0.out.size; omega) (HL.out.later HB0.out).own).mono ?_
  rintro e w1 ⟨v1, rfl, hb1, ho1⟩
  obtain ⟨A1, cap, hv, hres⟩ := own_shape ho1
  subst hv
  rcases hres with ⟨rfl, h⟩ | ⟨g, rfl, hg, how⟩
  · cases h
  have HB1 := hide (HB0.out.trans (hb1.mono HB0.out.size))
  have HK1 := hide (HK0.out.later hb1)
  have HL1 := hide ((HL.out.later HB0.out).later hb1)
  have HO1 := hide how
  have hgw : w.heap.size < g := by have := HK0.out.lt; omega
  clear hb1 ho1 how hg
  obtain ⟨bA, oA, bB, oB, bx, ox, cx, bY, oy, cy, rfl, rfl, h1, h2, h3, h4, l1, l2, l3, l4⟩ := HZ.out.reads HP.out hx hy
  rw [HU.out] at h3
  rw [HV.out] at h4
  have H2 := hide h2
  have H4 := hide h4
  have k0 := HK1.out.cell 0 _ rfl
  have k1 := HL1.out.2.1
  have k2 := HL1.out.2.2.1
  have r1 : w1.cell? ⟨bA, oA + x, none⟩ = some (.slice (some ⟨bx, ox, none⟩) m cx) := (HB1.out.cell (p := ⟨bA, oA + x, none⟩) l1).trans h1
  have r2 : w1.cell? ⟨bx, ox + y, none⟩ = some (.int .i64 u) := (HB1.out.cell (p := ⟨bx, ox + y, none⟩) l3).trans h3
  have g0 := HO1.out.cell (i := 0) (by simp [lst3])
  have g1 := HO1.out.frozen 0
  have n1 : g ≠ w.heap.size := by omega
  have n2 : g ≠ bc := by omega
  have n3 : g ≠ bA := by omega
  have n4 : g ≠ bx := by omega
  have n5 := n1.symm
  have n6 := n2.symm
  have n7 := n3.symm
  have n8 := n4.symm
  have az : (x : Int) < m := by omega
  have bz : (y : Int) < m := by omega
  have az0 : (0 : Int) ≤ x := by omega
  have bz0 : (0 : Int) ≤ y := by omega
  clear h1 h2 h3 h4
  have hw1 : IntKind.i64.wrap 1 = 1 := IntWalk.i64_in _ (by omega)
  have hw2 : IntKind.i64.wrap 2 = 2 := IntWalk.i64_in _ (by omega)
  go_wp2_with fail
  go_region_held3 (fun w' => w'.cell? ⟨w.heap.size, 0, none⟩ = some (.slice (some ⟨bA, oA, none⟩) m c) ∧ w'.cell? ⟨bc, 0, none⟩ = some (.int .i64 x) ∧ w'.cell? ⟨bc, 1, none⟩ = some (.int .i64 y) ∧ w'.cell? ⟨bA, oA + x, none⟩ = some (.slice (some ⟨bx, ox, none⟩) m cx) ∧ w'.cell? ⟨bx, ox + y, none⟩ = some (.int .i64 u)) (first | exact ⟨k0, k1, k2, r1, r2⟩ | go_keep) (first | fail)
  clear k0 k1 k2 r1 r2 g0 g1
  refine ex_gen (Q := Exit.then _ _) fun w2 hww2 => ?_
  have ht : Touch g (g + 1) w1 w2 := by rw [hww2]; exact ⟨rfl, rfl, rfl, by simp [World.setCell], fun k _ hne => by first | exact Below.heap_setCell w1 ⟨g, 0, none⟩ _ k (by show k ≠ g; omega) | exact (Below.heap_setCell w1.drew ⟨g, 0, none⟩ _ k (by show k ≠ g; omega))⟩
  have HO2 : Hid (OwnB 2 w2 g ((lst3 (x, y, z)).set 0 (u : Int))) := hide (by rw [hww2]; first | exact HO1.out.set 0 u (by simp [lst3]) | exact OwnB.set (w := w1.drew) HO1.out 0 u (by simp [lst3]))
  have HB2 := hide (ht.below HB1.out HB1.out.size (by omega))
  have HK2 := hide (HK1.out.touch ht (.inl (by omega)))
  have k0 := HK2.out.cell 1 _ rfl
  have k1 : w2.cell? ⟨bc, 0, none⟩ = some (.int .i64 x) := (World.cell?_of_block (a := ⟨bc, 0, none⟩) (ht.block bc HL1.out.1 (.inl (by omega)))).trans HL1.out.2.1
  have k2 : w2.cell? ⟨bc, 1, none⟩ = some (.int .i64 y) := (World.cell?_of_block (a := ⟨bc, 1, none⟩) (ht.block bc HL1.out.1 (.inl (by omega)))).trans HL1.out.2.2.1
  have r1 : w2.cell? ⟨bB, oB + x, none⟩ = some (.slice (some ⟨bY, oy, none⟩) m cy) := (HB2.out.cell (p := ⟨bB, oB + x, none⟩) l2).trans H2.out
  have r2 : w2.cell? ⟨bY, oy + y, none⟩ = some (.int .i64 v) := (HB2.out.cell (p := ⟨bY, oy + y, none⟩) l4).trans H4.out
  have g0 := HO2.out.cell (i := 1) (by simp [lst3])
  have g1 := HO2.out.frozen 1
  have n3 : g ≠ bB := by omega
  have n4 : g ≠ bY := by omega
  have n7 := n3.symm
  have n8 := n4.symm
  clear hww2 ht
  go_wp2_with fail
  go_region_held3 (fun w' => w'.cell? ⟨w.heap.size, 1, none⟩ = some (.slice (some ⟨bB, oB, none⟩) m d) ∧ w'.cell? ⟨bc, 0, none⟩ = some (.int .i64 x) ∧ w'.cell? ⟨bc, 1, none⟩ = some (.int .i64 y) ∧ w'.cell? ⟨bB, oB + x, none⟩ = some (.slice (some ⟨bY, oy, none⟩) m cy) ∧ w'.cell? ⟨bY, oy + y, none⟩ = some (.int .i64 v)) (first | exact ⟨k0, k1, k2, r1, r2⟩ | go_keep) (first | fail)
  clear k0 k1 k2 r1 r2 g0 g1
  refine ex_gen (Q := Exit.then _ _) fun w3 hw3 => ?_
  have HO3 : Hid (OwnB 2 w3 g (((lst3 (x, y, z)).set 0 (u : Int)).set 1 (v : Int))) := hide (by rw [hw3]; first | exact HO2.out.set 1 v (by simp [lst3]) | exact OwnB.set (w := w2.drew) HO2.out 1 v (by simp [lst3]))
  have HB3 : Hid (Below w.heap.size w w3) := hide (by rw [hw3]; first | exact HB2.out.setCell (p := ⟨g, 1, none⟩) (by show w.heap.size ≤ g; omega) _ | exact HB2.out.drew.setCell (p := ⟨g, 1, none⟩) (by show w.heap.size ≤ g; omega) _)
  clear hw3
  go_wp2_with fail
  go_ret
  exact ⟨g, cap, rfl, HB3.out, by omega, L3.of_own HO3.out rfl⟩

set_option maxRecDepth 100000 in
theorem do1_any (A : Option Addr) (n c : Nat) (f : List (List Int)) (B : Option Addr) (m d : Nat) (s : List (List Int)) (bc e : Nat) (x y z x' y' z' : Nat) (w : World) (hz : ZArg 1048576 w A n f B m s) (hp : PMap f s) (hi3 : In3 n (x, y, z)) (hdo : doAt f s 1 (x, y, z) = (x', y', z')) (hl : L3 w bc x y z) :
    Calls Try.prog 106 #[.agg #[.slice A n c, .slice B m d], .slice (some ⟨bc, 0, none⟩) 3 e, .int .i64 1] w fun e w' => ∃ g cap, e = .returned (.slice (some ⟨g, 0, none⟩) 3 cap) ∧ Below w.heap.size w w' ∧ w.heap.size ≤ g ∧ L3 w' g x' y' z' := by
  have HZ := hide hz
  have HP := hide hp
  have hnb := hz.sz.nb
  have hx : x < n := hi3.1
  have hy : y < n := hi3.2.1
  have hz' : z < n := hi3.2.2
  obtain rfl := hz.same hp
  have HL := hide hl
  have hbc := hl.1
  have HB0 := hide ((Below.refl _ w).alloc (Nat.le_refl _) (Obj.cells #[Value.slice A m c, Value.slice B m d] 29))
  have HK0 := hide (Blk.new w 29 [.slice A m c, .slice B m d])
  obtain ⟨u, hu⟩ : ∃ u, ap f y z = u := ⟨_, rfl⟩
  obtain ⟨v, hv⟩ : ∃ v, ap s y z = v := ⟨_, rfl⟩
  have hdo' : (x, u, v) = (x', y', z') := by rw [← hdo, ← hu, ← hv]; rfl
  injection hdo' with d1 d2
  injection d2 with d2 d3
  subst d1
  subst d2
  subst d3
  have HU := hide hu
  have HV := hide hv
  clear hz hp hl hi3 hdo hu hv
  go_enter Try.func106, Try.ntmps106
  go_wp2_with fail
  refine (own_any bc 0 3 e (lst3 (x, y, z)) _ rfl (by omega) (by have := HB0.out.size; omega) (HL.out.later HB0.out).own).mono ?_
  rintro e w1 ⟨v1, rfl, hb1, ho1⟩
  obtain ⟨A1, cap, hv, hres⟩ := own_shape ho1
  subst hv
  rcases hres with ⟨rfl, h⟩ | ⟨g, rfl, hg, how⟩
  · cases h
  have HB1 := hide (HB0.out.trans (hb1.mono HB0.out.size))
  have HK1 := hide (HK0.out.later hb1)
  have HL1 := hide ((HL.out.later HB0.out).later hb1)
  have HO1 := hide how
  have hgw : w.heap.size < g := by have := HK0.out.lt; omega
  clear hb1 ho1 how hg
  obtain ⟨bA, oA, bB, oB, bx, ox, cx, bY, oy, cy, rfl, rfl, h1, h2, h3, h4, l1, l2, l3, l4⟩ := HZ.out.reads HP.out hy hz'
  rw [HU.out] at h3
  rw [HV.out] at h4
  have H2 := hide h2
  have H4 := hide h4
  have k0 := HK1.out.cell 0 _ rfl
  have k1 := HL1.out.2.2.1
  have k2 := HL1.out.2.2.2
  have r1 : w1.cell? ⟨bA, oA + y, none⟩ = some (.slice (some ⟨bx, ox, none⟩) m cx) := (HB1.out.cell (p := ⟨bA, oA + y, none⟩) l1).trans h1
  have r2 : w1.cell? ⟨bx, ox + z, none⟩ = some (.int .i64 u) := (HB1.out.cell (p := ⟨bx, ox + z, none⟩) l3).trans h3
  have g0 := HO1.out.cell (i := 1) (by simp [lst3])
  have g1 := HO1.out.frozen 1
  have n1 : g ≠ w.heap.size := by omega
  have n2 : g ≠ bc := by omega
  have n3 : g ≠ bA := by omega
  have n4 : g ≠ bx := by omega
  have n5 := n1.symm
  have n6 := n2.symm
  have n7 := n3.symm
  have n8 := n4.symm
  have az : (y : Int) < m := by omega
  have bz : (z : Int) < m := by omega
  have az0 : (0 : Int) ≤ y := by omega
  have bz0 : (0 : Int) ≤ z := by omega
  clear h1 h2 h3 h4
  have hw1 : IntKind.i64.wrap 1 = 1 := IntWalk.i64_in _ (by omega)
  have hw2 : IntKind.i64.wrap 2 = 2 := IntWalk.i64_in _ (by omega)
  go_wp2_with fail
  go_region_held3 (fun w' => w'.cell? ⟨w.heap.size, 0, none⟩ = some (.slice (some ⟨bA, oA, none⟩) m c) ∧ w'.cell? ⟨bc, 1, none⟩ = some (.int .i64 y) ∧ w'.cell? ⟨bc, 2, none⟩ = some (.int .i64 z) ∧ w'.cell? ⟨bA, oA + y, none⟩ = some (.slice (some ⟨bx, ox, none⟩) m cx) ∧ w'.cell? ⟨bx, ox + z, none⟩ = some (.int .i64 u)) (first | exact ⟨k0, k1, k2, r1, r2⟩ | go_keep) (first | fail)
  clear k0 k1 k2 r1 r2 g0 g1
  refine ex_gen (Q := Exit.then _ _) fun w2 hww2 => ?_
  have ht : Touch g (g + 1) w1 w2 := by rw [hww2]; exact ⟨rfl, rfl, rfl, by simp [World.setCell], fun k _ hne => by first | exact Below.heap_setCell w1 ⟨g, 1, none⟩ _ k (by show k ≠ g; omega) | exact (Below.heap_setCell w1.drew ⟨g, 1, none⟩ _ k (by show k ≠ g; omega))⟩
  have HO2 : Hid (OwnB 2 w2 g ((lst3 (x, y, z)).set 1 (u : Int))) := hide (by rw [hww2]; first | exact HO1.out.set 1 u (by simp [lst3]) | exact OwnB.set (w := w1.drew) HO1.out 1 u (by simp [lst3]))
  have HB2 := hide (ht.below HB1.out HB1.out.size (by omega))
  have HK2 := hide (HK1.out.touch ht (.inl (by omega)))
  have k0 := HK2.out.cell 1 _ rfl
  have k1 : w2.cell? ⟨bc, 1, none⟩ = some (.int .i64 y) := (World.cell?_of_block (a := ⟨bc, 1, none⟩) (ht.block bc HL1.out.1 (.inl (by omega)))).trans HL1.out.2.2.1
  have k2 : w2.cell? ⟨bc, 2, none⟩ = some (.int .i64 z) := (World.cell?_of_block (a := ⟨bc, 2, none⟩) (ht.block bc HL1.out.1 (.inl (by omega)))).trans HL1.out.2.2.2
  have r1 : w2.cell? ⟨bB, oB + y, none⟩ = some (.slice (some ⟨bY, oy, none⟩) m cy) := (HB2.out.cell (p := ⟨bB, oB + y, none⟩) l2).trans H2.out
  have r2 : w2.cell? ⟨bY, oy + z, none⟩ = some (.int .i64 v) := (HB2.out.cell (p := ⟨bY, oy + z, none⟩) l4).trans H4.out
  have g0 := HO2.out.cell (i := 2) (by simp [lst3])
  have g1 := HO2.out.frozen 2
  have n3 : g ≠ bB := by omega
  have n4 : g ≠ bY := by omega
  have n7 := n3.symm
  have n8 := n4.symm
  clear hww2 ht
  go_wp2_with fail
  go_region_held3 (fun w' => w'.cell? ⟨w.heap.size, 1, none⟩ = some (.slice (some ⟨bB, oB, none⟩) m d) ∧ w'.cell? ⟨bc, 1, none⟩ = some (.int .i64 y) ∧ w'.cell? ⟨bc, 2, none⟩ = some (.int .i64 z) ∧ w'.cell? ⟨bB, oB + y, none⟩ = some (.slice (some ⟨bY, oy, none⟩) m cy) ∧ w'.cell? ⟨bY, oy + z, none⟩ = some (.int .i64 v)) (first | exact ⟨k0, k1, k2, r1, r2⟩ | go_keep) (first | fail)
  clear k0 k1 k2 r1 r2 g0 g1
  refine ex_gen (Q := Exit.then _ _) fun w3 hw3 => ?_
  have HO3 : Hid (OwnB 2 w3 g (((lst3 (x, y, z)).set 1 (u : Int)).set 2 (v : Int))) := hide (by rw [hw3]; first | exact HO2.out.set 2 v (by simp [lst3]) | exact OwnB.set (w := w2.drew) HO2.out 2 v (by simp [lst3]))
  have HB3 : Hid (Below w.heap.size w w3) := hide (by rw [hw3]; first | exact HB2.out.setCell (p := ⟨g, 2, none⟩) (by show w.heap.size ≤ g; omega) _ | exact HB2.out.drew.setCell (p := ⟨g, 2, none⟩) (by show w.heap.size ≤ g; omega) _)
  clear hw3
  go_wp2_with fail
  go_ret
  exact ⟨g, cap, rfl, HB3.out, by omega, L3.of_own HO3.out rfl⟩
end Go.Proofs.Ytiaebilcgmahlaa
namespace Go.Proofs.Ytiaebilcgmahlaa
open Go Go.RowKit
/-- Whether three elements show that a dot table is no cycle set. -/
def cyq (f : List (List Int)) : Nat → Nat → Nat → Bool := fun x y z => !decide (ap f (ap f x y) (ap f x z) = ap f (ap f y x) (ap f y z))
/-- What a cycle set is. -/
def Cyc (f : List (List Int)) : Prop := (Tbl f ∧ AllPrm f) ∧ Prm (kinkL f) ∧ ∀ i, i < f.length * f.length * f.length → qAt (cyq f) f.length i = false
theorem Cyc.tbl {f : List (List Int)} (h : Cyc f) : Tbl f := h.1.1
theorem Cyc.prm {f : List (List Int)} (h : Cyc f) : AllPrm f := h.1.2
theorem Cyc.le {f : List (List Int)} (h : Cyc f) : f.length ≤ 12 := h.tbl.2.1
def CyRes (f : List (List Int)) (r : Bool) : Prop := r = true ↔ Cyc f
theorem CyRes.ex (f : List (List Int)) : ∃ r, CyRes f r := bool_of _
def CyFRes (f : List (List Int)) (zs : List Int) (code : Int) : Prop :=
  (∃ T, Tbl f ∧ FirstQ (cyq f) f.length T ∧ ((T < f.length * f.length * f.length ∧ zs = lst3 (trip f.length T) ∧ code = 0) ∨ (T = f.length * f.length * f.length ∧ zs = [] ∧ code = 4))) ∨ (¬ Tbl f ∧ zs = [] ∧ code = 1)
theorem CyFRes.ex (f : List (List Int)) : ∃ zs code, CyFRes f zs code ∧ zs.length ≤ 1048576 := by
  by_cases h : Tbl f
  · obtain ⟨T, hT⟩ := FirstQ.ex (cyq f) f.length
    by_cases h2 : T < f.length * f.length * f.length
    · exact ⟨_, _, .inl ⟨T, h, hT, .inl ⟨h2, rfl, rfl⟩⟩, by simp [lst3]⟩
    · exact ⟨_, _, .inl ⟨T, h, hT, .inr ⟨by have := hT.2.1; omega, rfl, rfl⟩⟩, by simp⟩
  · exact ⟨_, _, .inr ⟨h, rfl, rfl⟩, by simp⟩
def DqRes (f : List (List Int)) (zs : List Int) (code : Int) : Prop := (Tbl f ∧ zs = kinkL f ∧ code = 0) ∨ (¬ Tbl f ∧ zs = [] ∧ code = 1)
theorem DqRes.ex (f : List (List Int)) : ∃ zs code, DqRes f zs code ∧ zs.length ≤ 1048576 := by
  by_cases h : Tbl f
  · exact ⟨_, _, .inl ⟨h, rfl, rfl⟩, by rw [kinkL_length]; have := h.2.1; omega⟩
  · exact ⟨_, _, .inr ⟨h, rfl, rfl⟩, by simp⟩
end Go.Proofs.Ytiaebilcgmahlaa
namespace Go.Proofs.Ytiaebilcgmahlaa
open Go Go.RowKit
set_option maxHeartbeats 2000000

theorem leadA0_any (A : Option Addr) (n c : Nat) (f : List (List Int)) (B : Option Addr) (m d : Nat) (s : List (List Int)) (x y z x' y' z' : Nat) (w : World) (hz : ZArg 1048576 w A n f B m s) (hp : PMap f s) (hi : In3 n (x, y, z)) (he : doAt f s 0 (x, y, z) = (x', y', z')) :
    Calls Try.prog 118 #[.agg #[.slice A n c, .slice B m d], .int .i64 0, .agg #[.int .i64 x, .int .i64 y, .int .i64 z]] w fun e w' => e = .returned (.agg #[.int .i64 x', .int .i64 y', .int .i64 z']) ∧ Below w.heap.size w w' := by
  have h := leadAt0_any A n c f B m d s x y z w hz hp hi.1 hi.2.1 hi.2.2
  have e : at0 f s (x, y, z) = (x', y', z') := he
  rw [e] at h
  exact h
theorem leadA1_any (A : Option Addr) (n c : Nat) (f : List (List Int)) (B : Option Addr) (m d : Nat) (s : List (List Int)) (x y z x' y' z' : Nat) (w : World) (hz : ZArg 1048576 w A n f B m s) (hp : PMap f s) (hi : In3 n (x, y, z)) (he : doAt f s 1 (x, y, z) = (x', y', z')) :
    Calls Try.prog 118 #[.agg #[.slice A n c, .slice B m d], .int .i64 1, .agg #[.int .i64 x, .int .i64 y, .int .i64 z]] w fun e w' => e = .returned (.agg #[.int .i64 x', .int .i64 y', .int .i64 z']) ∧ Below w.heap.size w w' := by
  have h := leadAt1_any A n c f B m d s x y z w hz hp hi.1 hi.2.1 hi.2.2
  have e : at1 f s (x, y, z) = (x', y', z') := he
  rw [e] at h
  exact h

set_option maxRecDepth 100000 in
theorem fault_any (A : Option Addr) (n c : Nat) (f : List (List Int)) (B : Option Addr) (m d : Nat) (s : List (List Int)) (T : Nat) (w : World) (hz : ZArg 1048576 w A n f B m s) (hp : PMap f s) (hT : First f s n T) :
    Calls Try.prog 96 #[.agg #[.slice A n c, .slice B m d]] w fun e w' => ∃ t ok, e = .returned (.tuple #[tv t, .bool ok]) ∧ Below w.heap.size w w' ∧ ((ok = true ∧ T < n * n * n ∧ t = trip n T) ∨ (ok = false ∧ T = n * n * n)) := by
  have hnb := hz.sz.nb
  have HZ := hide hz
  have HP := hide hp
  have HT := hide hT
  have HFL := hide hz.sz.fl
  have h12 := hz.small hp
  obtain ⟨N, hN⟩ : ∃ N, n * n = N := ⟨_, rfl⟩
  have hN144 : N ≤ 144 := by rw [← hN]; exact sq_le n h12.2
  have HN := hide hN
  clear hp hz hN hT
  go_enter Try.func96, Try.ntmps96
  go_wp2_with fail
  refine calls_gen fun w0 hw0 => ?_
  have HB0 : Hid (Below w.heap.size w w0) := hide (by rw [hw0]; exact ((Below.refl _ _).alloc (Nat.le_refl _) _).alloc (by simp) _)
  have HK0 : Hid (Blk w0 w.heap.size 29 [.slice A n c, .slice B m d]) := hide (by rw [hw0]; exact (Blk.new _ _ _).alloc _)
  have HO0 : Hid (Blk w0 (w.heap.size + 1) 100 [.int .i64 0, .int .i64 0, .int .i64 0]) := hide (by rw [hw0]; have h := Blk.new (w.alloc (Obj.cells #[Value.slice A n c, Value.slice B m d] 29)) 100 [.int .i64 0, .int .i64 0, .int .i64 0]; simpa using h)
  clear hw0
  refine (size_any _ _ _ _ _ _ _ hnb).mono ?_
  rintro e w2 ⟨rfl, hb2⟩
  have HB2 := hide (HB0.out.trans (hb2.mono HB0.out.size))
  have HK2 := hide (HK0.out.later hb2)
  have HO2 := hide (HO0.out.later hb2)
  clear hb2
  go_wp2_with fail
  refine (pairsOf_any n N _ h12.1 h12.2 HN.out).mono ?_
  rintro e w3 ⟨g, rfl, hb3, hg3, hpa⟩
  have HB3 := hide (HB2.out.trans (hb3.mono HB2.out.size))
  have HK3 := hide (HK2.out.later hb3)
  have HO3 := hide (HO2.out.later hb3)
  have HPA3 := hide hpa
  clear hb3 hpa
  go_wp2_with fail
  go_loopw [14] (fun i wr => ∃ k : Nat, k ≤ N ∧ i = .int .i64 k ∧ Below w.heap.size w wr ∧ Blk wr w.heap.size 29 [.slice A n c, .slice B m d] ∧ Blk wr (w.heap.size + 1) 100 [.int .i64 0, .int .i64 0, .int .i64 0] ∧ PairsAt wr g n ∧ ∀ i, i < k * n → Eq3 f s n i) (fun i _ => N - (intOf i).toNat)
  case atStart => exact ⟨0, Nat.zero_le _, rfl, HB3.out, HK3.out, HO3.out, HPA3.out, fun i hi => absurd hi (by omega)⟩
  case round =>
    obtain ⟨k, hk, rfl, hbe, hkk, hoo, hpa, hall⟩ := hrel
    have HB := hide hbe
    have HK := hide hkk
    have HO := hide hoo
    have HPA := hide hpa
    have HALL := hide hall
    clear hbe hkk hoo hpa hall
    have k0 := HK.out.cell 0 _ rfl
    have k1 := HK.out.cell 1 _ rfl
    have k2 := fun o => (HK.out.alloc o).cell 0 _ rfl
    have k3 := fun o => (HK.out.alloc o).cell 1 _ rfl
    by_cases hlt : k < N
    · have hkz : (k : Int) < N := by omega
      obtain ⟨p0, p1⟩ := HPA.out.2 k (by rw [HN.out]; exact hlt)
      have hxn : k / n < n := div_lt_sq (by rw [HN.out]; exact hlt)
      have hyn : k % n < n := mod_lt_sq (by rw [HN.out]; exact hlt)
      obtain ⟨x, hx⟩ : ∃ x, k / n = x := ⟨_, rfl⟩
      obtain ⟨y, hy⟩ : ∃ y, k % n = y := ⟨_, rfl⟩
      rw [hx] at p0 hxn
      rw [hy] at p1 hyn
      have HX := hide hx
      have HY := hide hy
      clear hx hy
      go_wp2_with fail
      refine calls_gen fun w4 hw4 => ?_
      obtain ⟨P, hPe⟩ : ∃ P, wr.heap.size = P := ⟨_, rfl⟩
      have HB4 : Hid (Below w.heap.size w w4) := hide (by rw [hw4]; exact HB.out.alloc HB.out.size _)
      have HK4 : Hid (Blk w4 w.heap.size 29 [.slice A n c, .slice B m d]) := hide (by rw [hw4]; exact HK.out.alloc _)
      have HO4 : Hid (Blk w4 (w.heap.size + 1) 100 [.int .i64 0, .int .i64 0, .int .i64 0]) := hide (by rw [hw4]; exact HO.out.alloc _)
      have HP4 : Hid (Blk w4 P 94 [.int .i64 x, .int .i64 y]) := hide (by rw [hw4, ← hPe]; exact Blk.new _ _ _)
      have HA4 : Hid (PairsAt w4 g n) := hide (by rw [hw4]; exact HPA.out.later ((Below.refl _ _).alloc (Nat.le_refl _) _))
      rw [hPe]
      clear hw4 k0 k1 k2 k3 p0 p1 hPe
      refine (size_any _ _ _ _ _ _ _ hnb).mono ?_
      rintro e w5 ⟨rfl, hb5⟩
      have HB5 := hide (HB4.out.trans (hb5.mono HB4.out.size))
      have HK5 := hide (HK4.out.later hb5)
      have HO5 := hide (HO4.out.later hb5)
      have HP5 := hide (HP4.out.later hb5)
      have HA5 := hide (HA4.out.later hb5)
      clear hb5
      go_wp2_with fail
      go_loopw [20] (fun i wi => ∃ z : Nat, z ≤ n ∧ i = .int .i64 z ∧ Below w.heap.size w wi ∧ Blk wi w.heap.size 29 [.slice A n c, .slice B m d] ∧ Blk wi (w.heap.size + 1) 100 [.int .i64 0, .int .i64 0, .int .i64 0] ∧ Blk wi P 94 [.int .i64 x, .int .i64 y] ∧ PairsAt wi g n ∧ ∀ i, i < k * n + z → Eq3 f s n i) (fun i _ => n - (intOf i).toNat)
      case atStart => exact ⟨0, Nat.zero_le _, rfl, HB5.out, HK5.out, HO5.out, HP5.out, HA5.out, HALL.out⟩
      case round =>
        obtain ⟨z, hzn, rfl, hbe, hkk, hoo, hpp, hpa, hall⟩ := hrel
        have HBc := hide hbe
        have HKc := hide hkk
        have HOc := hide hoo
        have HPc := hide hpp
        have HAc := hide hpa
        have HALLI := hide hall
        clear hbe hkk hoo hpp hpa hall
        by_cases hltz : z < n
        · have hzz : (z : Int) < n := by omega
          have p0 := HPc.out.cell 0 _ rfl
          have p1 := HPc.out.cell 1 _ rfl
          go_wp2_with fail
          refine wp_gen fun W0 hW0 => ?_
          have hwsz : w.heap.size < wr.heap.size := HKc.out.lt
          obtain ⟨Lb, hLb⟩ : ∃ Lb, wr.heap.size = Lb := ⟨_, rfl⟩
          have HF : Hid (FK w W0 g n Lb [(Lb, 100, [.int .i64 x, .int .i64 y, .int .i64 z]), (P, 94, [.int .i64 x, .int .i64 y]), (w.heap.size + 1, 100, [.int .i64 0, .int .i64 0, .int .i64 0]), (w.heap.size, 29, [.slice A n c, .slice B m d])]) := hide (by rw [hW0, ← hLb]; exact FK.new (top := wr.heap.size - 1) (FK.start HBc.out HAc.out HKc.out HOc.out HPc.out) _ _)
          rw [hLb]
          clear hW0 hLb p0 p1 hwsz
          have I0 : Hid (In3 n (x, y, z)) := hide ⟨hxn, hyn, hltz⟩
          obtain ⟨⟨x1, y1, z1⟩, hE1⟩ : ∃ t, doAt f s 0 (x, y, z) = t := ⟨_, rfl⟩
          have E1 := hide hE1
          have I1 : Hid (In3 n (x1, y1, z1)) := hide (by rw [← hE1]; exact I0.out.do HP.out HFL.out 0)
          clear hE1
          obtain ⟨⟨x2, y2, z2⟩, hE2⟩ : ∃ t, doAt f s 1 (x1, y1, z1) = t := ⟨_, rfl⟩
          have E2 := hide hE2
          have I2 : Hid (In3 n (x2, y2, z2)) := hide (by rw [← hE2]; exact I1.out.do HP.out HFL.out 1)
          clear hE2
          obtain ⟨⟨x3, y3, z3⟩, hE3⟩ : ∃ t, doAt f s 0 (x2, y2, z2) = t := ⟨_, rfl⟩
          have E3 := hide hE3
          clear hE3
          obtain ⟨⟨s1, t1, r1⟩, hG1⟩ : ∃ t, doAt f s 1 (x, y, z) = t := ⟨_, rfl⟩
          have G1 := hide hG1
          have J1 : Hid (In3 n (s1, t1, r1)) := hide (by rw [← hG1]; exact I0.out.do HP.out HFL.out 1)
          clear hG1
          obtain ⟨⟨s2, t2, r2⟩, hG2⟩ : ∃ t, doAt f s 0 (s1, t1, r1) = t := ⟨_, rfl⟩
          have G2 := hide hG2
          have J2 : Hid (In3 n (s2, t2, r2)) := hide (by rw [← hG2]; exact J1.out.do HP.out HFL.out 0)
          clear hG2
          obtain ⟨⟨s3, t3, r3⟩, hG3⟩ : ∃ t, doAt f s 1 (s2, t2, r2) = t := ⟨_, rfl⟩
          have G3 := hide hG3
          clear hG3
          go_cut [8] (fun v wx => ∃ L, v = .pointer (some ⟨L, 0, none⟩) ∧ FK w wx g n L ((L, 100, [.int .i64 x3, .int .i64 y3, .int .i64 z3]) :: [(Lb, 100, [.int .i64 x, .int .i64 y, .int .i64 z]), (P, 94, [.int .i64 x, .int .i64 y]), (w.heap.size + 1, 100, [.int .i64 0, .int .i64 0, .int .i64 0]), (w.heap.size, 29, [.slice A n c, .slice B m d])]))
          case first =>
            have HPB : Hid True := hide trivial
            have tok0 : True := trivial
            have tok1 : True := trivial
            have k0 := (HF.out.blk (b := w.heap.size) (t := 29) (cs := [.slice A n c, .slice B m d]) (by simp)).cell 0 _ rfl
            have k1 := (HF.out.blk (b := w.heap.size) (t := 29) (cs := [.slice A n c, .slice B m d]) (by simp)).cell 1 _ rfl
            have l0 := (HF.out.blk (b := Lb) (t := 100) (cs := [.int .i64 x, .int .i64 y, .int .i64 z]) (by simp)).cell 0 _ rfl
            have l1 := (HF.out.blk (b := Lb) (t := 100) (cs := [.int .i64 x, .int .i64 y, .int .i64 z]) (by simp)).cell 1 _ rfl
            have l2 := (HF.out.blk (b := Lb) (t := 100) (cs := [.int .i64 x, .int .i64 y, .int .i64 z]) (by simp)).cell 2 _ rfl
            have g1 : W0.heap.size ≠ w.heap.size := (by have h1 := HF.out.sz; have h2 := HF.out.low; omega)
            have g2 : W0.heap.size ≠ Lb := (by have h1 := HF.out.sz; have h2 := HF.out.top' (b := Lb) (t := 100) (cs := [.int .i64 x, .int .i64 y, .int .i64 z]) (by simp); omega)
            have g3 := g1.symm
            have g4 := g2.symm
            go_region_held3 (fun w' => w'.cell? ⟨w.heap.size, 0, none⟩ = some (.slice A n c) ∧ w'.cell? ⟨w.heap.size, 1, none⟩ = some (.slice B m d) ∧ w'.cell? ⟨Lb, 0, none⟩ = some (.int .i64 x) ∧ w'.cell? ⟨Lb, 1, none⟩ = some (.int .i64 y) ∧ w'.cell? ⟨Lb, 2, none⟩ = some (.int .i64 z)) (first | exact ⟨k0, k1, l0, l1, l2⟩ | go_keep) (first | (go_at_call 118; have _t := tok0; clear _t tok0; go_must (refine calls_gen fun wc hwc => ?_; have HF0 := HF; (first | (have hbx := al_drew_below hwc; have HPB := hide (And.intro (blk_al_drew hwc) HF0.out.sz)) | (have hbx := al_below hwc; have HPB := hide (And.intro (blk_al hwc) HF0.out.sz)) | (have hbx := drew_below hwc; (first | replace HPB := hide (And.intro (HPB.out.1.later hbx) HPB.out.2) | skip)) | (have hbx := eq_below hwc; (first | replace HPB := hide (And.intro (HPB.out.1.later hbx) HPB.out.2) | skip))); clear HF0; replace HF := hide (HF.out.later hbx); clear hwc hbx; refine (leadA0_any _ _ _ f _ _ _ s x y z x1 y1 z1 _ (HZ.out.later HF.out.below) HP.out I0.out E1.out).mono ?_; rintro e wd ⟨rfl, hbd⟩; replace HF := hide (HF.out.later hbd); (first | replace HPB := hide (And.intro (HPB.out.1.later hbd) HPB.out.2) | skip); clear hbd; have g1 : wd.heap.size ≠ w.heap.size := (by have h1 := HF.out.sz; have h2 := HF.out.low; omega); have g2 : wd.heap.size ≠ Lb := (by have h1 := HF.out.sz; have h2 := HF.out.top' (b := Lb) (t := 100) (cs := [.int .i64 x, .int .i64 y, .int .i64 z]) (by simp); omega); have g3 := g1.symm; have g4 := g2.symm; have k0 := (HF.out.blk (b := w.heap.size) (t := 29) (cs := [.slice A n c, .slice B m d]) (by simp)).cell 0 _ rfl; have k1 := (HF.out.blk (b := w.heap.size) (t := 29) (cs := [.slice A n c, .slice B m d]) (by simp)).cell 1 _ rfl; have l0 := (HF.out.blk (b := Lb) (t := 100) (cs := [.int .i64 x, .int .i64 y, .int .i64 z]) (by simp)).cell 0 _ rfl; have l1 := (HF.out.blk (b := Lb) (t := 100) (cs := [.int .i64 x, .int .i64 y, .int .i64 z]) (by simp)).cell 1 _ rfl; have l2 := (HF.out.blk (b := Lb) (t := 100) (cs := [.int .i64 x, .int .i64 y, .int .i64 z]) (by simp)).cell 2 _ rfl; (first | (have b0 := HPB.out.1.cell 0 _ rfl; have b1 := HPB.out.1.cell 1 _ rfl; have b2 := HPB.out.1.cell 2 _ rfl; have b3 := HPB.out.1.frozen 0; have b4 := HPB.out.1.frozen 1; have b5 := HPB.out.1.frozen 2) | skip))) | (go_at_call 118; have _t := tok1; clear _t tok1; go_must (refine calls_gen fun wc hwc => ?_; have HF0 := HF; (first | (have hbx := al_drew_below hwc; have HPB := hide (And.intro (blk_al_drew hwc) HF0.out.sz)) | (have hbx := al_below hwc; have HPB := hide (And.intro (blk_al hwc) HF0.out.sz)) | (have hbx := drew_below hwc; (first | replace HPB := hide (And.intro (HPB.out.1.later hbx) HPB.out.2) | skip)) | (have hbx := eq_below hwc; (first | replace HPB := hide (And.intro (HPB.out.1.later hbx) HPB.out.2) | skip))); clear HF0; replace HF := hide (HF.out.later hbx); clear hwc hbx; refine (leadA1_any _ _ _ f _ _ _ s x1 y1 z1 x2 y2 z2 _ (HZ.out.later HF.out.below) HP.out I1.out E2.out).mono ?_; rintro e wd ⟨rfl, hbd⟩; replace HF := hide (HF.out.later hbd); (first | replace HPB := hide (And.intro (HPB.out.1.later hbd) HPB.out.2) | skip); clear hbd; have g1 : wd.heap.size ≠ w.heap.size := (by have h1 := HF.out.sz; have h2 := HF.out.low; omega); have g2 : wd.heap.size ≠ Lb := (by have h1 := HF.out.sz; have h2 := HF.out.top' (b := Lb) (t := 100) (cs := [.int .i64 x, .int .i64 y, .int .i64 z]) (by simp); omega); have g3 := g1.symm; have g4 := g2.symm; have k0 := (HF.out.blk (b := w.heap.size) (t := 29) (cs := [.slice A n c, .slice B m d]) (by simp)).cell 0 _ rfl; have k1 := (HF.out.blk (b := w.heap.size) (t := 29) (cs := [.slice A n c, .slice B m d]) (by simp)).cell 1 _ rfl; have l0 := (HF.out.blk (b := Lb) (t := 100) (cs := [.int .i64 x, .int .i64 y, .int .i64 z]) (by simp)).cell 0 _ rfl; have l1 := (HF.out.blk (b := Lb) (t := 100) (cs := [.int .i64 x, .int .i64 y, .int .i64 z]) (by simp)).cell 1 _ rfl; have l2 := (HF.out.blk (b := Lb) (t := 100) (cs := [.int .i64 x, .int .i64 y, .int .i64 z]) (by simp)).cell 2 _ rfl; (first | (have b0 := HPB.out.1.cell 0 _ rfl; have b1 := HPB.out.1.cell 1 _ rfl; have b2 := HPB.out.1.cell 2 _ rfl; have b3 := HPB.out.1.frozen 0; have b4 := HPB.out.1.frozen 1; have b5 := HPB.out.1.frozen 2) | skip))) | (go_at_call 118; go_must (refine calls_gen fun wc hwc => ?_; have HF0 := HF; (first | (have hbx := al_drew_below hwc; have HPB := hide (And.intro (blk_al_drew hwc) HF0.out.sz)) | (have hbx := al_below hwc; have HPB := hide (And.intro (blk_al hwc) HF0.out.sz)) | (have hbx := drew_below hwc; (first | replace HPB := hide (And.intro (HPB.out.1.later hbx) HPB.out.2) | skip)) | (have hbx := eq_below hwc; (first | replace HPB := hide (And.intro (HPB.out.1.later hbx) HPB.out.2) | skip))); clear HF0; replace HF := hide (HF.out.later hbx); clear hwc hbx; refine (leadA0_any _ _ _ f _ _ _ s x2 y2 z2 x3 y3 z3 _ (HZ.out.later HF.out.below) HP.out I2.out E3.out).mono ?_; rintro e wd ⟨rfl, hbd⟩; replace HF := hide (HF.out.later hbd); (first | replace HPB := hide (And.intro (HPB.out.1.later hbd) HPB.out.2) | skip); clear hbd; have g1 : wd.heap.size ≠ w.heap.size := (by have h1 := HF.out.sz; have h2 := HF.out.low; omega); have g2 : wd.heap.size ≠ Lb := (by have h1 := HF.out.sz; have h2 := HF.out.top' (b := Lb) (t := 100) (cs := [.int .i64 x, .int .i64 y, .int .i64 z]) (by simp); omega); have g3 := g1.symm; have g4 := g2.symm; have k0 := (HF.out.blk (b := w.heap.size) (t := 29) (cs := [.slice A n c, .slice B m d]) (by simp)).cell 0 _ rfl; have k1 := (HF.out.blk (b := w.heap.size) (t := 29) (cs := [.slice A n c, .slice B m d]) (by simp)).cell 1 _ rfl; have l0 := (HF.out.blk (b := Lb) (t := 100) (cs := [.int .i64 x, .int .i64 y, .int .i64 z]) (by simp)).cell 0 _ rfl; have l1 := (HF.out.blk (b := Lb) (t := 100) (cs := [.int .i64 x, .int .i64 y, .int .i64 z]) (by simp)).cell 1 _ rfl; have l2 := (HF.out.blk (b := Lb) (t := 100) (cs := [.int .i64 x, .int .i64 y, .int .i64 z]) (by simp)).cell 2 _ rfl; (first | (have b0 := HPB.out.1.cell 0 _ rfl; have b1 := HPB.out.1.cell 1 _ rfl; have b2 := HPB.out.1.cell 2 _ rfl; have b3 := HPB.out.1.frozen 0; have b4 := HPB.out.1.frozen 1; have b5 := HPB.out.1.frozen 2) | skip))))
            all_goals go_wp2_with fail
            all_goals go_meet
            all_goals refine ⟨_, rfl, ?_⟩
            all_goals first | exact HF.out.new _ _ | exact (((HF.out.set (p := ⟨_, 0, none⟩) HPB.out.2 _).set (p := ⟨_, 1, none⟩) HPB.out.2 _).set (p := ⟨_, 2, none⟩) HPB.out.2 _).push (((HPB.out.1.set 0 _).set 1 _).set 2 _) HPB.out.2
          case rest =>
            obtain ⟨L1, rfl, hfk⟩ := hcut
            replace HF := hide hfk
            clear hfk
            go_wp2_with fail
            go_cut [9] (fun v wx => ∃ L, v = .pointer (some ⟨L, 0, none⟩) ∧ FK w wx g n L ((L, 100, [.int .i64 s3, .int .i64 t3, .int .i64 r3]) :: (L1, 100, [.int .i64 x3, .int .i64 y3, .int .i64 z3]) :: [(Lb, 100, [.int .i64 x, .int .i64 y, .int .i64 z]), (P, 94, [.int .i64 x, .int .i64 y]), (w.heap.size + 1, 100, [.int .i64 0, .int .i64 0, .int .i64 0]), (w.heap.size, 29, [.slice A n c, .slice B m d])]))
            case first =>
              have HPB : Hid True := hide trivial
              have tok0 : True := trivial
              have tok1 : True := trivial
              have k0 := (HF.out.blk (b := w.heap.size) (t := 29) (cs := [.slice A n c, .slice B m d]) (by simp)).cell 0 _ rfl
              have k1 := (HF.out.blk (b := w.heap.size) (t := 29) (cs := [.slice A n c, .slice B m d]) (by simp)).cell 1 _ rfl
              have l0 := (HF.out.blk (b := Lb) (t := 100) (cs := [.int .i64 x, .int .i64 y, .int .i64 z]) (by simp)).cell 0 _ rfl
              have l1 := (HF.out.blk (b := Lb) (t := 100) (cs := [.int .i64 x, .int .i64 y, .int .i64 z]) (by simp)).cell 1 _ rfl
              have l2 := (HF.out.blk (b := Lb) (t := 100) (cs := [.int .i64 x, .int .i64 y, .int .i64 z]) (by simp)).cell 2 _ rfl
              have g1 : wc.heap.size ≠ w.heap.size := (by have h1 := HF.out.sz; have h2 := HF.out.low; omega)
              have g2 : wc.heap.size ≠ Lb := (by have h1 := HF.out.sz; have h2 := HF.out.top' (b := Lb) (t := 100) (cs := [.int .i64 x, .int .i64 y, .int .i64 z]) (by simp); omega)
              have g3 := g1.symm
              have g4 := g2.symm
              go_region_held3 (fun w' => w'.cell? ⟨w.heap.size, 0, none⟩ = some (.slice A n c) ∧ w'.cell? ⟨w.heap.size, 1, none⟩ = some (.slice B m d) ∧ w'.cell? ⟨Lb, 0, none⟩ = some (.int .i64 x) ∧ w'.cell? ⟨Lb, 1, none⟩ = some (.int .i64 y) ∧ w'.cell? ⟨Lb, 2, none⟩ = some (.int .i64 z)) (first | exact ⟨k0, k1, l0, l1, l2⟩ | go_keep) (first | (go_at_call 118; have _t := tok0; clear _t tok0; go_must (refine calls_gen fun wc hwc => ?_; have HF0 := HF; (first | (have hbx := al_drew_below hwc; have HPB := hide (And.intro (blk_al_drew hwc) HF0.out.sz)) | (have hbx := al_below hwc; have HPB := hide (And.intro (blk_al hwc) HF0.out.sz)) | (have hbx := drew_below hwc; (first | replace HPB := hide (And.intro (HPB.out.1.later hbx) HPB.out.2) | skip)) | (have hbx := eq_below hwc; (first | replace HPB := hide (And.intro (HPB.out.1.later hbx) HPB.out.2) | skip))); clear HF0; replace HF := hide (HF.out.later hbx); clear hwc hbx; refine (leadA1_any _ _ _ f _ _ _ s x y z s1 t1 r1 _ (HZ.out.later HF.out.below) HP.out I0.out G1.out).mono ?_; rintro e wd ⟨rfl, hbd⟩; replace HF := hide (HF.out.later hbd); (first | replace HPB := hide (And.intro (HPB.out.1.later hbd) HPB.out.2) | skip); clear hbd; have g1 : wd.heap.size ≠ w.heap.size := (by have h1 := HF.out.sz; have h2 := HF.out.low; omega); have g2 : wd.heap.size ≠ Lb := (by have h1 := HF.out.sz; have h2 := HF.out.top' (b := Lb) (t := 100) (cs := [.int .i64 x, .int .i64 y, .int .i64 z]) (by simp); omega); have g3 := g1.symm; have g4 := g2.symm; have k0 := (HF.out.blk (b := w.heap.size) (t := 29) (cs := [.slice A n c, .slice B m d]) (by simp)).cell 0 _ rfl; have k1 := (HF.out.blk (b := w.heap.size) (t := 29) (cs := [.slice A n c, .slice B m d]) (by simp)).cell 1 _ rfl; have l0 := (HF.out.blk (b := Lb) (t := 100) (cs := [.int .i64 x, .int .i64 y, .int .i64 z]) (by simp)).cell 0 _ rfl; have l1 := (HF.out.blk (b := Lb) (t := 100) (cs := [.int .i64 x, .int .i64 y, .int .i64 z]) (by simp)).cell 1 _ rfl; have l2 := (HF.out.blk (b := Lb) (t := 100) (cs := [.int .i64 x, .int .i64 y, .int .i64 z]) (by simp)).cell 2 _ rfl; (first | (have b0 := HPB.out.1.cell 0 _ rfl; have b1 := HPB.out.1.cell 1 _ rfl; have b2 := HPB.out.1.cell 2 _ rfl; have b3 := HPB.out.1.frozen 0; have b4 := HPB.out.1.frozen 1; have b5 := HPB.out.1.frozen 2) | skip))) | (go_at_call 118; have _t := tok1; clear _t tok1; go_must (refine calls_gen fun wc hwc => ?_; have HF0 := HF; (first | (have hbx := al_drew_below hwc; have HPB := hide (And.intro (blk_al_drew hwc) HF0.out.sz)) | (have hbx := al_below hwc; have HPB := hide (And.intro (blk_al hwc) HF0.out.sz)) | (have hbx := drew_below hwc; (first | replace HPB := hide (And.intro (HPB.out.1.later hbx) HPB.out.2) | skip)) | (have hbx := eq_below hwc; (first | replace HPB := hide (And.intro (HPB.out.1.later hbx) HPB.out.2) | skip))); clear HF0; replace HF := hide (HF.out.later hbx); clear hwc hbx; refine (leadA0_any _ _ _ f _ _ _ s s1 t1 r1 s2 t2 r2 _ (HZ.out.later HF.out.below) HP.out J1.out G2.out).mono ?_; rintro e wd ⟨rfl, hbd⟩; replace HF := hide (HF.out.later hbd); (first | replace HPB := hide (And.intro (HPB.out.1.later hbd) HPB.out.2) | skip); clear hbd; have g1 : wd.heap.size ≠ w.heap.size := (by have h1 := HF.out.sz; have h2 := HF.out.low; omega); have g2 : wd.heap.size ≠ Lb := (by have h1 := HF.out.sz; have h2 := HF.out.top' (b := Lb) (t := 100) (cs := [.int .i64 x, .int .i64 y, .int .i64 z]) (by simp); omega); have g3 := g1.symm; have g4 := g2.symm; have k0 := (HF.out.blk (b := w.heap.size) (t := 29) (cs := [.slice A n c, .slice B m d]) (by simp)).cell 0 _ rfl; have k1 := (HF.out.blk (b := w.heap.size) (t := 29) (cs := [.slice A n c, .slice B m d]) (by simp)).cell 1 _ rfl; have l0 := (HF.out.blk (b := Lb) (t := 100) (cs := [.int .i64 x, .int .i64 y, .int .i64 z]) (by simp)).cell 0 _ rfl; have l1 := (HF.out.blk (b := Lb) (t := 100) (cs := [.int .i64 x, .int .i64 y, .int .i64 z]) (by simp)).cell 1 _ rfl; have l2 := (HF.out.blk (b := Lb) (t := 100) (cs := [.int .i64 x, .int .i64 y, .int .i64 z]) (by simp)).cell 2 _ rfl; (first | (have b0 := HPB.out.1.cell 0 _ rfl; have b1 := HPB.out.1.cell 1 _ rfl; have b2 := HPB.out.1.cell 2 _ rfl; have b3 := HPB.out.1.frozen 0; have b4 := HPB.out.1.frozen 1; have b5 := HPB.out.1.frozen 2) | skip))) | (go_at_call 118; go_must (refine calls_gen fun wc hwc => ?_; have HF0 := HF; (first | (have hbx := al_drew_below hwc; have HPB := hide (And.intro (blk_al_drew hwc) HF0.out.sz)) | (have hbx := al_below hwc; have HPB := hide (And.intro (blk_al hwc) HF0.out.sz)) | (have hbx := drew_below hwc; (first | replace HPB := hide (And.intro (HPB.out.1.later hbx) HPB.out.2) | skip)) | (have hbx := eq_below hwc; (first | replace HPB := hide (And.intro (HPB.out.1.later hbx) HPB.out.2) | skip))); clear HF0; replace HF := hide (HF.out.later hbx); clear hwc hbx; refine (leadA1_any _ _ _ f _ _ _ s s2 t2 r2 s3 t3 r3 _ (HZ.out.later HF.out.below) HP.out J2.out G3.out).mono ?_; rintro e wd ⟨rfl, hbd⟩; replace HF := hide (HF.out.later hbd); (first | replace HPB := hide (And.intro (HPB.out.1.later hbd) HPB.out.2) | skip); clear hbd; have g1 : wd.heap.size ≠ w.heap.size := (by have h1 := HF.out.sz; have h2 := HF.out.low; omega); have g2 : wd.heap.size ≠ Lb := (by have h1 := HF.out.sz; have h2 := HF.out.top' (b := Lb) (t := 100) (cs := [.int .i64 x, .int .i64 y, .int .i64 z]) (by simp); omega); have g3 := g1.symm; have g4 := g2.symm; have k0 := (HF.out.blk (b := w.heap.size) (t := 29) (cs := [.slice A n c, .slice B m d]) (by simp)).cell 0 _ rfl; have k1 := (HF.out.blk (b := w.heap.size) (t := 29) (cs := [.slice A n c, .slice B m d]) (by simp)).cell 1 _ rfl; have l0 := (HF.out.blk (b := Lb) (t := 100) (cs := [.int .i64 x, .int .i64 y, .int .i64 z]) (by simp)).cell 0 _ rfl; have l1 := (HF.out.blk (b := Lb) (t := 100) (cs := [.int .i64 x, .int .i64 y, .int .i64 z]) (by simp)).cell 1 _ rfl; have l2 := (HF.out.blk (b := Lb) (t := 100) (cs := [.int .i64 x, .int .i64 y, .int .i64 z]) (by simp)).cell 2 _ rfl; (first | (have b0 := HPB.out.1.cell 0 _ rfl; have b1 := HPB.out.1.cell 1 _ rfl; have b2 := HPB.out.1.cell 2 _ rfl; have b3 := HPB.out.1.frozen 0; have b4 := HPB.out.1.frozen 1; have b5 := HPB.out.1.frozen 2) | skip))))
              all_goals go_wp2_with fail
              all_goals go_meet
              all_goals refine ⟨_, rfl, ?_⟩
              all_goals first | exact HF.out.new _ _ | exact (((HF.out.set (p := ⟨_, 0, none⟩) HPB.out.2 _).set (p := ⟨_, 1, none⟩) HPB.out.2 _).set (p := ⟨_, 2, none⟩) HPB.out.2 _).push (((HPB.out.1.set 0 _).set 1 _).set 2 _) HPB.out.2
            case rest =>
              obtain ⟨L2, rfl, hfk⟩ := hcut
              replace HF := hide hfk
              clear hfk
              have kb0 := (HF.out.blk (b := L1) (t := 100) (cs := [.int .i64 x3, .int .i64 y3, .int .i64 z3]) (by simp)).cell 0 _ rfl
              have kb1 := (HF.out.blk (b := L1) (t := 100) (cs := [.int .i64 x3, .int .i64 y3, .int .i64 z3]) (by simp)).cell 1 _ rfl
              have kb2 := (HF.out.blk (b := L1) (t := 100) (cs := [.int .i64 x3, .int .i64 y3, .int .i64 z3]) (by simp)).cell 2 _ rfl
              have kc0 := (HF.out.blk (b := L2) (t := 100) (cs := [.int .i64 s3, .int .i64 t3, .int .i64 r3]) (by simp)).cell 0 _ rfl
              have kc1 := (HF.out.blk (b := L2) (t := 100) (cs := [.int .i64 s3, .int .i64 t3, .int .i64 r3]) (by simp)).cell 1 _ rfl
              have kc2 := (HF.out.blk (b := L2) (t := 100) (cs := [.int .i64 s3, .int .i64 t3, .int .i64 r3]) (by simp)).cell 2 _ rfl
              have hlef : lef f s (x, y, z) = (x3, y3, z3) := by unfold lef; rw [E1.out, E2.out, E3.out]
              have hrig : rig f s (x, y, z) = (s3, t3, r3) := by unfold rig; rw [G1.out, G2.out, G3.out]
              have htr : trip n (k * n + z) = (x, y, z) := by
                have h := trip_of (n := n) (x := x) hyn hltz
                rw [← HX.out, ← HY.out, pair_eta, HX.out, HY.out] at h
                exact h
              have heq : Eq3 f s n (k * n + z) ↔ (x3, y3, z3) = (s3, t3, r3) := by unfold Eq3; rw [htr, hlef, hrig]
              have hklt : k * n + z < n * n * n := by
                have h := trip_lt (n := n) hxn hyn hltz
                rw [← HX.out, ← HY.out, pair_eta] at h
                exact h
              have HEQ := hide heq
              have HTR := hide htr
              have HKL := hide hklt
              clear hlef hrig htr heq hklt
              have heqv := eq3_run x3 y3 z3 s3 t3 r3 wc
              by_cases hcs : ((x3 : Int) = s3) ∧ ((y3 : Int) = t3) ∧ ((z3 : Int) = r3)
              · rw [decide_eq_true hcs] at heqv
                have hgood : Eq3 f s n (k * n + z) := HEQ.out.2 (by
                  obtain ⟨e1, e2, e3⟩ := hcs
                  have a1 : x3 = s3 := by omega
                  have a2 : y3 = t3 := by omega
                  have a3 : z3 = r3 := by omega
                  rw [a1, a2, a3])
                have HGOOD := hide hgood
                clear hgood hcs
                go_wp2_with fail
                go_roundw
                case rel => exact ⟨z + 1, by omega, by go_num, HF.out.below, HF.out.blk (by simp), HF.out.blk (by simp), HF.out.blk (by simp), HF.out.pairs, fun i hi => by
                  by_cases e : i = k * n + z
                  · rw [e]; exact HGOOD.out
                  · exact HALLI.out i (by omega)⟩
                case measure => simp [intOf]; omega
              · rw [decide_eq_false hcs] at heqv
                have hbad : ¬ Eq3 f s n (k * n + z) := fun h => by
                  have h := HEQ.out.1 h
                  injection h with a1 a2
                  injection a2 with a2 a3
                  exact hcs ⟨by omega, by omega, by omega⟩
                have HTB := hide (HT.out.bad HALLI.out HKL.out hbad)
                clear hbad hcs
                have kd0 := (HF.out.blk (b := Lb) (t := 100) (cs := [.int .i64 x, .int .i64 y, .int .i64 z]) (by simp)).cell 0 _ rfl
                have kd1 := (HF.out.blk (b := Lb) (t := 100) (cs := [.int .i64 x, .int .i64 y, .int .i64 z]) (by simp)).cell 1 _ rfl
                have kd2 := (HF.out.blk (b := Lb) (t := 100) (cs := [.int .i64 x, .int .i64 y, .int .i64 z]) (by simp)).cell 2 _ rfl
                have HO9 := hide (HF.out.blk (b := w.heap.size + 1) (t := 100) (cs := [.int .i64 0, .int .i64 0, .int .i64 0]) (by simp))
                have o0 := HO9.out.cell 0 _ rfl
                have o1 := HO9.out.cell 1 _ rfl
                have o2 := HO9.out.cell 2 _ rfl
                have o3 := HO9.out.frozen 0
                have o4 := HO9.out.frozen 1
                have o5 := HO9.out.frozen 2
                go_wp2_with fail
                refine bp_gen fun wf hwf => ?_
                have hlo : w.heap.size ≤ w.heap.size + 1 := by omega
                have HRF : Blk wf (w.heap.size + 1) 100 [.int .i64 x, .int .i64 y, .int .i64 z] := by rw [hwf]; exact ((HO9.out.set 0 _).set 1 _).set 2 _
                have HBF : Below w.heap.size w wf := by rw [hwf]; exact ((HF.out.below.setCell (p := ⟨w.heap.size + 1, 0, none⟩) hlo _).setCell (p := ⟨w.heap.size + 1, 1, none⟩) hlo _).setCell (p := ⟨w.heap.size + 1, 2, none⟩) hlo _
                clear hwf o0 o1 o2 o3 o4 o5 kd0 kd1 kd2 kb0 kb1 kb2 kc0 kc1 kc2
                have q0 := HRF.cell 0 _ rfl
                have q1 := HRF.cell 1 _ rfl
                have q2 := HRF.cell 2 _ rfl
                exact bodyPost_ret (v := .tuple #[.agg #[.int .i64 x, .int .i64 y, .int .i64 z], .bool true]) (by simp [results, Try.results96, go_sem, q0, q1, q2]) rfl ⟨(x, y, z), true, rfl, HBF, .inl ⟨rfl, by rw [HTB.out]; exact HKL.out, by rw [HTB.out, HTR.out]⟩⟩
        · have hzn' : z = n := by omega
          subst hzn'
          go_wp2_with fail
          go_roundw
          case rel => exact ⟨k + 1, by omega, by go_num, HBc.out, HKc.out, HOc.out, HAc.out, fun i hi => HALLI.out i (by rw [Nat.add_mul, Nat.one_mul] at hi; exact hi)⟩
          case measure => simp [intOf]; omega
    · have hkn : k = N := by omega
      subst hkn
      clear k0 k1 k2 k3
      have o0 := HO.out.cell 0 _ rfl
      have o1 := HO.out.cell 1 _ rfl
      have o2 := HO.out.cell 2 _ rfl
      have o3 := HO.out.frozen 0
      have o4 := HO.out.frozen 1
      have o5 := HO.out.frozen 2
      go_wp2_with fail
      refine bp_gen fun wf hwf => ?_
      have hlo : w.heap.size ≤ w.heap.size + 1 := by omega
      have HRF : Blk wf (w.heap.size + 1) 100 [.int .i64 0, .int .i64 0, .int .i64 0] := by rw [hwf]; exact ((HO.out.set 0 _).set 1 _).set 2 _
      have HBF : Below w.heap.size w wf := by rw [hwf]; exact ((HB.out.setCell (p := ⟨w.heap.size + 1, 0, none⟩) hlo _).setCell (p := ⟨w.heap.size + 1, 1, none⟩) hlo _).setCell (p := ⟨w.heap.size + 1, 2, none⟩) hlo _
      clear hwf o0 o1 o2 o3 o4 o5
      have q0 := HRF.cell 0 _ rfl
      have q1 := HRF.cell 1 _ rfl
      have q2 := HRF.cell 2 _ rfl
      have HTN : T = n * n * n := HT.out.all (fun i hi => HALL.out i (by rw [HN.out] at hi; exact hi))
      exact bodyPost_ret (v := .tuple #[.agg #[.int .i64 (0 : Nat), .int .i64 (0 : Nat), .int .i64 (0 : Nat)], .bool false]) (by simp [results, Try.results96, go_sem, q0, q1, q2]) rfl ⟨(0, 0, 0), false, rfl, HBF, .inr ⟨rfl, HTN⟩⟩
end Go.Proofs.Ytiaebilcgmahlaa
