import Derived.Test.YtljdfanebjhhmaaZc
namespace Go.Proofs.Ytljdfanebjhhmaa
open Go Go.RowKit

theorem bcell {W w1 : World} (hb : Below W.heap.size W w1) : (∀ b o, b < W.heap.size → w1.cell? ⟨b, o, none⟩ = W.cell? ⟨b, o, none⟩) ∧ (∀ b o, b < W.heap.size → w1.frozen? ⟨b, o, none⟩ = W.frozen? ⟨b, o, none⟩) :=
  ⟨fun b o h => hb.cell (p := ⟨b, o, none⟩) h, fun b o h => hb.frozen (p := ⟨b, o, none⟩) h⟩

/-- The world at the end of a walk under a name of its own. -/
theorem bp_gen {P : Program} {f : Func} {Q : Ending → World → Prop} {x : Exit} {a : Act} {w : World} (h : ∀ wf, wf = w → bodyPost P f Q x a wf) : bodyPost P f Q x a w := h w rfl

theorem wp_gen {P : Program} {c : Code} {Q : Exit → Act → World → Prop} {a : Act} {w : World} (h : ∀ wf, wf = w → Code.wp P c Q a wf) : Code.wp P c Q a w := h w rfl
theorem calls_gen {P : Program} {f : FuncId} {args : Array Value} {w : World} {Q : Ending → World → Prop} (h : ∀ wf, wf = w → Calls P f args wf Q) : Calls P f args w Q := h w rfl

theorem bdrewN {B : Nat} {w w' : World} (h : Below B w w') (n : Nat) : Below B w (w'.drewN n) := h.trans ((Quiet.of w' n).below B)

theorem eq_below {a b : World} (h : a = b) : Below b.heap.size b a := h ▸ Below.refl _ _
theorem drew_below {a b : World} (h : a = b.drew) : Below b.heap.size b a := h ▸ (Below.refl _ _).drew

/-- Block b is just the cells cs. -/
def Blk (w : World) (b : Nat) (t : TypeId) (cs : List Value) : Prop := w.heap[b]? = some (.cells cs.toArray t (0, 0))

section
variable {w w' : World} {b B : Nat} {t : TypeId} {cs : List Value}
theorem Blk.new (w : World) (t : TypeId) (cs : List Value) : Blk (w.alloc (.cells cs.toArray t)) w.heap.size t cs := heap_alloc_new _ _
theorem Blk.lt (h : Blk w b t cs) : b < w.heap.size := (Array.getElem?_eq_some_iff.1 h).1
theorem Blk.cell (h : Blk w b t cs) (i : Nat) (v : Value) (hi : cs[i]? = some v) : w.cell? ⟨b, i, none⟩ = some v := by
  rw [cell_of_row w b i _ t (0, 0) h]
  simpa using hi
theorem Blk.frozen (h : Blk w b t cs) (i : Nat) : w.frozen? ⟨b, i, none⟩ = false := by
  unfold Blk at h
  simp [World.frozen?, h]
theorem Blk.set (h : Blk w b t cs) (i : Nat) (v : Value) : Blk (w.setCell ⟨b, i, none⟩ v) b t (cs.set i v) := by
  unfold Blk at h ⊢
  simp [World.setCell, Array.getElem?_modify, h]
theorem Blk.far (h : Blk w b t cs) {p : Addr} (hp : b ≠ p.block) (v : Value) : Blk (w.setCell p v) b t cs := (Below.heap_setCell w p v b hp).trans h
theorem Blk.later (h : Blk w b t cs) (hb : Below w.heap.size w w') : Blk w' b t cs := (hb.block b h.lt).trans h
theorem Blk.alloc (h : Blk w b t cs) (o : Obj) : Blk (w.alloc o) b t cs := h.later ((Below.refl _ _).alloc (Nat.le_refl _) _)
theorem Blk.touch {lo hi : Nat} (h : Blk w b t cs) (ht : Touch lo hi w w') (hs : b < lo ∨ hi ≤ b) : Blk w' b t cs := (ht.block b h.lt hs).trans h
theorem Blk.drew (h : Blk w b t cs) : Blk w.drew b t cs := h
theorem Blk.drewN (h : Blk w b t cs) (n : Nat) : Blk (w.drewN n) b t cs := h.later ((Quiet.of w n).below _)
end

theorem Obj1.set {t : TypeId} {lo hi : Nat} {w : World} {A : Option Addr} {xs : List Int} (h : Obj1 t lo hi w A xs) {p : Addr} (hp : p.block < lo ∨ hi ≤ p.block) (v : Value) : Obj1 t lo hi (w.setCell p v) A xs :=
  h.far (lo2 := p.block) (hi2 := p.block + 1) ⟨rfl, rfl, rfl, by simp [World.setCell], fun k _ hne => Below.heap_setCell w p v k (by omega)⟩ (by omega)
theorem Obj2.set {ts t : TypeId} {lo hi : Nat} {w : World} {A : Option Addr} {rows : List (List Int)} (h : Obj2 ts t lo hi w A rows) {p : Addr} (hp : p.block < lo ∨ hi ≤ p.block) (v : Value) : Obj2 ts t lo hi (w.setCell p v) A rows :=
  h.far (lo2 := p.block) (hi2 := p.block + 1) ⟨rfl, rfl, rfl, by simp [World.setCell], fun k _ hne => Below.heap_setCell w p v k (by omega)⟩ (by omega)
theorem Touch.alloc {lo hi : Nat} {w w' : World} (h : Touch lo hi w w') (o : Obj) : Touch lo hi w (w'.alloc o) :=
  ⟨h.os, h.tape, h.output, Nat.le_trans h.size (by simp), fun k hk hne => by
    have e : (w'.alloc o).heap[k]? = w'.heap[k]? := ((Below.refl w'.heap.size w').alloc (Nat.le_refl _) o).block k (by have := h.size; omega)
    rw [e]
    exact h.block k hk hne⟩
end Go.Proofs.Ytljdfanebjhhmaa
namespace Go.Proofs.Ytljdfanebjhhmaa
open Go Go.RowKit

/-- Two tables in memory of their own, the first one's blocks ahead of the second one's. -/
def ObjZ (ts t : TypeId) (lo hi : Nat) (w : World) (A : Option Addr) (f : List (List Int)) (B : Option Addr) (s : List (List Int)) : Prop :=
  ∃ mid, lo ≤ mid ∧ mid ≤ hi ∧ Obj2 ts t lo mid w A f ∧ Obj2 ts t mid hi w B s
/-- Two tables whose blocks lie from lo to hi. -/
def ObjW (ts t : TypeId) (lo hi : Nat) (w : World) (A : Option Addr) (f : List (List Int)) (B : Option Addr) (s : List (List Int)) : Prop :=
  Obj2 ts t lo hi w A f ∧ Obj2 ts t lo hi w B s

section
variable {ts t : TypeId} {w w' : World} {lo hi : Nat} {A B : Option Addr} {f s : List (List Int)}

theorem ObjZ.weak (h : ObjZ ts t lo hi w A f B s) : ObjW ts t lo hi w A f B s := by
  obtain ⟨mid, h1, h2, h3, h4⟩ := h
  exact ⟨h3.mono (Nat.le_refl _) h2, h4.mono h1 (Nat.le_refl _)⟩
theorem ObjZ.fst (h : ObjZ ts t lo hi w A f B s) : Rd2 w A f := h.weak.1.rd
theorem ObjZ.snd (h : ObjZ ts t lo hi w A f B s) : Rd2 w B s := h.weak.2.rd
theorem ObjW.fst (h : ObjW ts t lo hi w A f B s) : Rd2 w A f := h.1.rd
theorem ObjW.snd (h : ObjW ts t lo hi w A f B s) : Rd2 w B s := h.2.rd
theorem ObjZ.later (h : ObjZ ts t lo hi w A f B s) (hb : Below w.heap.size w w') : ObjZ ts t lo hi w' A f B s := by
  obtain ⟨mid, h1, h2, h3, h4⟩ := h
  exact ⟨mid, h1, h2, h3.later hb, h4.later hb⟩
theorem ObjW.later (h : ObjW ts t lo hi w A f B s) (hb : Below w.heap.size w w') : ObjW ts t lo hi w' A f B s := ⟨h.1.later hb, h.2.later hb⟩
theorem ObjZ.far {lo2 hi2 : Nat} (h : ObjZ ts t lo hi w A f B s) (ht : Touch lo2 hi2 w w') (hd : hi ≤ lo2 ∨ hi2 ≤ lo) : ObjZ ts t lo hi w' A f B s := by
  obtain ⟨mid, h1, h2, h3, h4⟩ := h
  exact ⟨mid, h1, h2, h3.far ht (by omega), h4.far ht (by omega)⟩
theorem ObjW.far {lo2 hi2 : Nat} (h : ObjW ts t lo hi w A f B s) (ht : Touch lo2 hi2 w w') (hd : hi ≤ lo2 ∨ hi2 ≤ lo) : ObjW ts t lo hi w' A f B s := ⟨h.1.far ht hd, h.2.far ht hd⟩
theorem ObjZ.mono {lo' hi' : Nat} (h : ObjZ ts t lo hi w A f B s) (h1 : lo' ≤ lo) (h2 : hi ≤ hi') : ObjZ ts t lo' hi' w A f B s := by
  obtain ⟨mid, k1, k2, h3, h4⟩ := h
  exact ⟨mid, by omega, by omega, h3.mono h1 (Nat.le_refl _), h4.mono (Nat.le_refl _) h2⟩
theorem ObjW.mono {lo' hi' : Nat} (h : ObjW ts t lo hi w A f B s) (h1 : lo' ≤ lo) (h2 : hi ≤ hi') : ObjW ts t lo' hi' w A f B s := ⟨h.1.mono h1 h2, h.2.mono h1 h2⟩
theorem ObjZ.empty (h : lo ≤ hi) : ObjZ ts t lo hi w none [] none [] := ⟨lo, Nat.le_refl _, h, .inl ⟨rfl, rfl⟩, .inl ⟨rfl, rfl⟩⟩
theorem ObjW.empty : ObjW ts t lo hi w none [] none [] := ⟨.inl ⟨rfl, rfl⟩, .inl ⟨rfl, rfl⟩⟩

theorem Touch.wide {lo2 hi2 : Nat} (h : Touch lo2 hi2 w w') (h1 : lo ≤ lo2) (h2 : hi2 ≤ hi) : Touch lo hi w w' :=
  ⟨h.os, h.tape, h.output, h.size, fun k hk hne => h.block k hk (by omega)⟩
theorem Touch.of_below (h : Below w.heap.size w w') : Touch lo hi w w' :=
  ⟨h.os, h.tape, h.output, h.size, fun k hk _ => h.block k hk⟩
end

/-- A pair of tables and a code, in new memory. -/
def ZPost (ts t : TypeId) (n m : Nat) (f s : List (List Int)) (code : Int) (w : World) (e : Ending) (w' : World) : Prop :=
  ∃ A c B d, e = .returned (.tuple #[.agg #[.slice A n c, .slice B m d], .int .i64 code]) ∧ Below w.heap.size w w' ∧ ObjZ ts t w.heap.size w'.heap.size w' A f B s
def WPost (ts t : TypeId) (n m : Nat) (f s : List (List Int)) (code : Int) (w : World) (e : Ending) (w' : World) : Prop :=
  ∃ A c B d, e = .returned (.tuple #[.agg #[.slice A n c, .slice B m d], .int .i64 code]) ∧ Below w.heap.size w w' ∧ ObjW ts t w.heap.size w'.heap.size w' A f B s
end Go.Proofs.Ytljdfanebjhhmaa
namespace Go.Proofs.Ytljdfanebjhhmaa
open Go Go.RowKit

theorem copyT (A : Option Addr) (n c : Nat) (rows : List (List Int)) (w : World) (hn : rows.length = n) (hb : n ≤ 1048576) (hbs : ∀ i, i < rows.length → (rows.getD i []).length ≤ 1048576) (hr : Rd2 w A rows) :
    Calls Try.prog 40 #[.slice A n c] w fun e w' => ∃ A', e = .returned (.slice A' n n) ∧ Below w.heap.size w w' ∧ Obj2 33 2 w.heap.size w'.heap.size w' A' rows :=
  (toInt64SS_any A n c rows w hn hb hbs hr).mono fun _ _ ⟨he, hb, ht, hs⟩ => ⟨_, he, hb, ht.obj (Nat.le_refl _) (by omega) (fun i hi => by omega) (fun i j hi hj hne => by omega)⟩
end Go.Proofs.Ytljdfanebjhhmaa
namespace Go.Proofs.Ytljdfanebjhhmaa
open Go Go.RowKit
set_option maxHeartbeats 1000000

theorem markR (t : TypeId) (lo hi : Nat) (A : Option Addr) (n c : Nat) (k : Int) (xs : List Int) (w : World) (hn : xs.length = n) (hb : n ≤ 4194304) (hk : 0 ≤ k) (hk2 : k ≤ 4611686018427387904) (hr : Obj1 t lo hi w A xs) :
    Calls Try.prog 25 #[.slice A n c, .int .i64 k] w fun e w' => e = .returned (.int .i64 (k + n)) ∧ Touch lo hi w w' ∧ Obj1 t lo hi w' A (marks k n) :=
  (mark_any t lo A n c k xs w hn hb hk hk2 (hr.res (Nat.le_refl _))).mono fun _ w' ⟨he, ho, hr'⟩ => ⟨he, .of_only ho hr.bounds, by
    rcases hr' with h | ⟨g, h1, h2, h3⟩
    · exact .inl h
    · exact .inr ⟨g, h1, h2, (hr.bounds _ h1).2, h3⟩⟩

/-- Between the rounds of the marking of rows: the first i rows are marked. -/
theorem row_between (k : Int) (rows : List (List Int)) (i j : Nat) (hj : j < rows.length) : (((marks2 k rows).take i ++ rows.drop i).getD j []).length = (rows.getD j []).length := by
  have hm := marks2_length k rows
  simp only [List.getD_eq_getElem?_getD]
  by_cases h : j < i
  · have h1 : j < ((marks2 k rows).take i).length := by simp; omega
    rw [List.getElem?_append_left h1, List.getElem?_take, if_pos h]
    have e := marks2_getD k rows j hj
    simp only [List.getD_eq_getElem?_getD] at e
    rw [e, marks_length]
  · have h1 : ((marks2 k rows).take i).length ≤ j := by simp; omega
    rw [List.getElem?_append_right h1, List.getElem?_drop]
    have : ((marks2 k rows).take i).length = min i rows.length := by simp [hm]
    congr 3
    omega

theorem row_at (k : Int) (rows : List (List Int)) (i : Nat) (hi : i < rows.length) : ((marks2 k rows).take i ++ rows.drop i).getD i [] = rows.getD i [] := by
  have hm := marks2_length k rows
  simp only [List.getD_eq_getElem?_getD]
  have h1 : ((marks2 k rows).take i).length = i := by simp; omega
  rw [List.getElem?_append_right (by omega), List.getElem?_drop, h1]
  simp

theorem row_next (k : Int) (rows : List (List Int)) (i : Nat) (hi : i < rows.length) : ((marks2 k rows).take i ++ rows.drop i).set i (marks (k + (tot (rows.take i) : Int)) (rows.getD i []).length) = (marks2 k rows).take (i + 1) ++ rows.drop (i + 1) := by
  have hm := marks2_length k rows
  have h1 : ((marks2 k rows).take i).length = i := by simp; omega
  have h2 : i < (marks2 k rows).length := by omega
  rw [List.set_append_right _ _ (by omega), h1, Nat.sub_self, List.take_succ_eq_append_getElem h2, List.append_assoc]
  congr 1
  rw [List.drop_eq_getElem_cons hi, List.set_cons_zero]
  have e := marks2_getD k rows i hi
  have e2 : (marks2 k rows).getD i [] = (marks2 k rows)[i] := by simp [h2]
  rw [← e, e2]
  rfl

/-- The row i of the object is replaced. -/
theorem Obj2.put {ts t : TypeId} {lo hi : Nat} {w w' : World} {g : Nat} {R : Nat → Option Addr} {C : Nat → Nat} {rows : List (List Int)} {i : Nat} {r : List Int} (hne : ts ≠ t) (_hlo : lo ≤ g) (_hhi : g < hi)
    (hc : ∃ cur : Array Value, w.heap[g]? = some (.cells cur ts (0, 0)) ∧ ∀ i, i < rows.length → cur[i]? = some (.slice (R i) (rows.getD i []).length (C i)))
    (ho : ∀ i, i < rows.length → Obj1 t lo hi w (R i) (rows.getD i []))
    (hd : ∀ i j, i < rows.length → j < rows.length → i ≠ j → ∀ a b, R i = some a → R j = some b → a.block ≠ b.block)
    (hi' : i < rows.length) (hl : r.length = (rows.getD i []).length) (hon : Only (R i) w w') (hnew : Obj1 t lo hi w' (R i) r) :
    (∃ cur : Array Value, w'.heap[g]? = some (.cells cur ts (0, 0)) ∧ ∀ j, j < (rows.set i r).length → cur[j]? = some (.slice (R j) ((rows.set i r).getD j []).length (C j))) ∧
    (∀ j, j < (rows.set i r).length → Obj1 t lo hi w' (R j) ((rows.set i r).getD j [])) := by
  obtain ⟨cur, c1, c2⟩ := hc
  have hgl : g < w.heap.size := (Array.getElem?_eq_some_iff.1 c1).1
  have get : ∀ j, j < rows.length → (rows.set i r).getD j [] = if i = j then r else rows.getD j [] := fun j hj => by
    simp only [List.getD_eq_getElem?_getD, List.getElem?_set]
    by_cases e : i = j
    · subst e; simp [hi']
    · simp [e]
  refine ⟨⟨cur, (hon.block g hgl (fun e => ?_)).trans c1, fun j hj => ?_⟩, fun j hj => ?_⟩
  · cases hR : R i with
    | none => rw [hR] at e; cases e
    | some a =>
      rw [hR] at e
      have e2 : g = a.block := by simpa using e
      rcases ho i hi' with ⟨h, _⟩ | ⟨g', h, _, _, cur', h3, _⟩
      · rw [hR] at h; cases h
      · rw [hR] at h
        cases h
        subst e2
        rw [c1] at h3
        injection h3 with h3
        injection h3 with _ h3
        exact hne h3
  · rw [List.length_set] at hj
    rw [c2 j hj, get j hj]
    by_cases e : i = j
    · subst e; rw [if_pos rfl, hl]
    · rw [if_neg e]
  · rw [List.length_set] at hj
    rw [get j hj]
    by_cases e : i = j
    · subst e; rw [if_pos rfl]; exact hnew
    · rw [if_neg e]
      rcases ho j hj with h | ⟨g', h, h1, h2, h3⟩
      · exact .inl h
      · refine .inr ⟨g', h, h1, h2, h3.of_block (hon.block g' h3.lt (fun e' => ?_))⟩
        cases hR : R i with
        | none => rw [hR] at e'; cases e'
        | some a =>
          rw [hR] at e'
          have e2 : g' = a.block := by simpa using e'
          exact hd i j hi' hj e a ⟨g', 0, none⟩ hR h e2.symm

theorem markT (ts t : TypeId) (hne : ts ≠ t) (lo hi : Nat) (A : Option Addr) (n c : Nat) (k : Int) (rows : List (List Int)) (w : World) (hn : rows.length = n) (hb : n ≤ 1048576) (hbs : ∀ i, i < rows.length → (rows.getD i []).length ≤ 1048576) (htot : tot rows ≤ 2305843009213693952) (hk : 0 ≤ k) (hk2 : k ≤ 2305843009213693952) (hr : Obj2 ts t lo hi w A rows) :
    Calls Try.prog 47 #[.slice A n c, .int .i64 k] w fun e w' => e = .returned (.int .i64 (k + (tot rows : Int))) ∧ Touch lo hi w w' ∧ Obj2 ts t lo hi w' A (marks2 k rows) := by
  have HN := hide hn
  clear hn
  rcases hr with ⟨rfl, rfl⟩ | ⟨g, R, C, rfl, h1, h2, h3, h4, h5⟩
  · have h0 : n = 0 := by have := HN.out; simpa using this.symm
    subst h0
    go_enter Try.func47, Try.ntmps47
    go_wp2_with fail
    refine wp_loop_rounds 1 ?_
    rw [rounds_succ]
    go_wp2_with fail
    go_ret
    exact ⟨by simp [tot], Touch.refl _ _ _, .inl ⟨rfl, rfl⟩⟩
  · have H3 := hide h3
    have H4 := hide h4
    have H5 := hide h5
    have HNE := hide hne
    clear h3 h4 h5 hne
    go_enter Try.func47, Try.ntmps47
    go_wp2_with fail
    go_loopw [1, 5] (fun q i wr => ∃ j : Nat, j ≤ n ∧ i = .int .i64 j ∧ q = .int .i64 (k + (tot (rows.take j) : Int)) ∧ Touch lo hi w wr ∧
        (∃ cur : Array Value, wr.heap[g]? = some (.cells cur ts (0, 0)) ∧ ∀ i, i < ((marks2 k rows).take j ++ rows.drop j).length → cur[i]? = some (.slice (R i) (((marks2 k rows).take j ++ rows.drop j).getD i []).length (C i))) ∧
        (∀ i, i < ((marks2 k rows).take j ++ rows.drop j).length → Obj1 t lo hi wr (R i) (((marks2 k rows).take j ++ rows.drop j).getD i []))) (fun _ i _ => n - (intOf i).toNat)
    case atStart => exact ⟨0, Nat.zero_le _, rfl, by simp [tot], Touch.refl _ _ _, by simpa using H3.out, by simpa using H4.out⟩
    case round =>
      obtain ⟨j, hj, rfl, rfl, ht, hc, ho⟩ := hrel
      have HT := hide ht
      have HC := hide hc
      have HO := hide ho
      clear ht hc ho
      have hm := marks2_length k rows
      have HM := hide hm
      have hl : ((marks2 k rows).take j ++ rows.drop j).length = n := by have := HN.out; simp; omega
      have HL := hide hl
      clear hm hl
      by_cases hlt : j < n
      · have hjr : j < rows.length := by have := HN.out; omega
        have hcell : wr.cell? ⟨g, j, none⟩ = some (.slice (R j) (rows.getD j []).length (C j)) := by
          obtain ⟨cur, c1, c2⟩ := HC.out
          rw [cell_of_row wr g j cur ts (0, 0) c1, c2 j (by rw [HL.out]; exact hlt), row_at k rows j hjr]
        have hobj := HO.out j (by rw [HL.out]; exact hlt)
        rw [row_at k rows j hjr] at hobj
        have hbj := hbs j hjr
        have htj := tot_take_succ rows j hjr
        have hle := tot_take_le rows (j + 1)
        rw [htj] at hle
        have HTJ := hide htj
        have HOBJ := hide hobj
        have HJR := hide hjr
        obtain ⟨m, hm⟩ : ∃ m, (rows.getD j []).length = m := ⟨_, rfl⟩
        rw [hm] at hcell hbj hle
        have HMM := hide hm
        obtain ⟨s, hs⟩ : ∃ s, tot (rows.take j) = s := ⟨_, rfl⟩
        rw [hs] at hle ⊢
        have HS := hide hs
        clear hs hm htj hobj hjr hbs
        have hltz : (j : Int) < n := by omega
        go_wp2_with fail
        refine (mark_any t lo _ _ _ _ (rows.getD j []) _ HMM.out (by omega) (by omega) (by omega) (HOBJ.out.res (Nat.le_refl _))).mono ?_
        rintro e w2 ⟨rfl, hon, hres⟩
        have HON := hide hon
        have HRES := hide hres
        clear hon hres
        go_wp2_with fail
        go_roundw
        case rel =>
          have hnew : Obj1 t lo hi w2 (R j) (marks (k + (s : Int)) m) := by
            rcases HRES.out with h | ⟨g', e1, e2, e3⟩
            · exact .inl h
            · exact .inr ⟨g', e1, e2, (HOBJ.out.bounds _ e1).2, e3⟩
          have hput := Obj2.put (r := marks (k + (s : Int)) m) HNE.out h1 h2 HC.out HO.out (fun a b ha hb hab x y hx hy => H5.out a b (by rw [HL.out] at ha; have := HN.out; omega) (by rw [HL.out] at hb; have := HN.out; omega) hab x y hx hy)
            (by rw [HL.out]; exact hlt) (by rw [row_at k rows j HJR.out, HMM.out, marks_length]) HON.out hnew
          have e := row_next k rows j HJR.out
          rw [HS.out, HMM.out] at e
          rw [e] at hput
          exact ⟨j + 1, by omega, by go_num, by rw [HTJ.out, HS.out, HMM.out]; go_num, HT.out.trans (.of_only HON.out HOBJ.out.bounds), hput.1, hput.2⟩
        case measure => simp [intOf]; omega
      · have hjn : j = n := by omega
        subst hjn
        go_wp2_with fail
        go_ret
        have hN := HN.out
        have hM := HM.out
        have e : (marks2 k rows).take j ++ rows.drop j = marks2 k rows := by
          rw [List.take_of_length_le (by omega), List.drop_of_length_le (by omega), List.append_nil]
        have hc := HC.out
        have ho := HO.out
        rw [e] at hc ho
        refine ⟨by rw [List.take_of_length_le (by omega)]; rfl, HT.out, .inr ⟨g, R, C, rfl, h1, h2, hc, ho, fun a b ha hb hab x y hx hy => H5.out a b (by omega) (by omega) hab x y hx hy⟩⟩

theorem heldT (A : Option Addr) (n c : Nat) (k : Int) (rows : List (List Int)) (w : World) (hn : rows.length = n) (hb : n ≤ 1048576) (hbs : ∀ i, i < rows.length → (rows.getD i []).length ≤ 1048576) (htot : tot rows ≤ 2305843009213693952) (hk : 0 ≤ k) (hk2 : k ≤ 2305843009213693952) (hr : Rd2 w A (marks2 k rows)) :
    Calls Try.prog 48 #[.slice A n c, .int .i64 k] w fun e w' => e = .returned (.int .i64 (k + (tot rows : Int))) ∧ Quiet w w' := by
  have HN := hide hn
  clear hn
  go_enter Try.func48, Try.ntmps48
  go_wp2_with fail
  go_loopw [1, 5] (fun q i wr => ∃ j : Nat, j ≤ n ∧ i = .int .i64 j ∧ q = .int .i64 (k + (tot (rows.take j) : Int)) ∧ Quiet w wr) (fun _ i _ => n - (intOf i).toNat)
  case atStart => exact ⟨0, Nat.zero_le _, rfl, by simp [tot], Quiet.refl _⟩
  case round =>
    obtain ⟨j, hj, rfl, rfl, hq⟩ := hrel
    have HQ := hide hq
    clear hq
    by_cases hlt : j < n
    · have hjr : j < rows.length := by have := HN.out; omega
      obtain ⟨b, o, rfl, hbw, hc⟩ := HQ.out.rd2 hr (by rw [marks2_length]; omega)
      obtain ⟨Aj, cj, hcell, hrd⟩ := hc j (by rw [marks2_length]; omega)
      rw [marks2_getD k rows j hjr] at hcell hrd
      rw [marks_length] at hcell
      have hbj := hbs j hjr
      have htj := tot_take_succ rows j hjr
      have hle := tot_take_le rows (j + 1)
      rw [htj] at hle
      have HTJ := hide htj
      obtain ⟨m, hm⟩ : ∃ m, (rows.getD j []).length = m := ⟨_, rfl⟩
      rw [hm] at hcell hbj hle hrd
      have HMM := hide hm
      obtain ⟨s, hs⟩ : ∃ s, tot (rows.take j) = s := ⟨_, rfl⟩
      rw [hs] at hle hrd ⊢
      have HS := hide hs
      have HRD := hide hrd
      clear hs hm htj hrd hc hr hjr hbs
      have hltz : (j : Int) < n := by omega
      go_wp2_with fail
      refine (held_any _ _ _ _ _ (by omega) (by omega) (by omega) HRD.out).mono ?_
      rintro e w2 ⟨rfl, hq2⟩
      have HQ2 := hide hq2
      clear hq2
      have hnn : ¬ (k + (s : Int) + (m : Int) < 0) := by omega
      go_wp2_with fail
      go_roundw
      case rel => exact ⟨j + 1, by omega, by go_num, by rw [HTJ.out, HS.out, HMM.out]; go_num, HQ.out.trans HQ2.out⟩
      case measure => simp [intOf]; omega
    · have hjn : j = n := by omega
      subst hjn
      go_wp2_with fail
      go_ret
      exact ⟨by rw [List.take_of_length_le (by have := HN.out; omega)]; rfl, HQ.out⟩
end Go.Proofs.Ytljdfanebjhhmaa
namespace Go.Proofs.Ytljdfanebjhhmaa
open Go Go.RowKit

/-- The n times n table of a function. -/
def grid (n : Nat) (f : Nat → Nat → Int) : List (List Int) := (List.range n).map fun (a : Nat) => (List.range n).map fun (b : Nat) => f a b

theorem grid_length (n : Nat) (f : Nat → Nat → Int) : (grid n f).length = n := by simp [grid]
theorem grid_row (n : Nat) (f : Nat → Nat → Int) (a : Nat) (h : a < n) : (grid n f).getD a [] = (List.range n).map fun (b : Nat) => f a b := by simp [grid, h]
theorem grid_row_length (n : Nat) (f : Nat → Nat → Int) (a : Nat) (h : a < n) : ((grid n f).getD a []).length = n := by rw [grid_row n f a h]; simp
theorem grid_at (n : Nat) (f : Nat → Nat → Int) (a b : Nat) (ha : a < n) (hb : b < n) : ((grid n f).getD a []).getD b 0 = f a b := by rw [grid_row n f a ha]; simp [hb]
theorem grid_congr (n : Nat) (f g : Nat → Nat → Int) (h : ∀ a b, a < n → b < n → f a b = g a b) : grid n f = grid n g := by
  unfold grid
  refine List.map_congr_left fun a ha => List.map_congr_left fun b hb => h a b (List.mem_range.1 ha) (List.mem_range.1 hb)

/-- Block b begins with n cells, cell i holding f i. -/
def PreIs (w : World) (b : Nat) (t : TypeId) (n : Nat) (f : Nat → Value) : Prop :=
  ∃ cur : Array Value, w.heap[b]? = some (.cells cur t (0, 0)) ∧ ∀ i, i < n → cur[i]? = some (f i)

section
variable {w w' : World} {b : Nat} {t : TypeId} {n : Nat} {f h : Nat → Value}
theorem PreIs.of_row (r : w.rowIs b t n f) : PreIs w b t n f := by
  obtain ⟨cur, h1, _, h3⟩ := r
  exact ⟨cur, h1, h3⟩
theorem PreIs.lt (r : PreIs w b t n f) : b < w.heap.size := by
  obtain ⟨cur, h1, _⟩ := r
  exact (Array.getElem?_eq_some_iff.1 h1).1
theorem PreIs.cell (r : PreIs w b t n f) {i : Nat} (hi : i < n) : w.cell? ⟨b, i, none⟩ = some (f i) := by
  obtain ⟨cur, h1, h2⟩ := r
  rw [cell_of_row w b i cur t (0, 0) h1]
  exact h2 i hi
theorem PreIs.frozen (r : PreIs w b t n f) (i : Nat) : w.frozen? ⟨b, i, none⟩ = false := by
  obtain ⟨cur, h1, _⟩ := r
  simp [World.frozen?, h1]
theorem PreIs.congr (r : PreIs w b t n f) (e : ∀ i, i < n → f i = h i) : PreIs w b t n h := by
  obtain ⟨cur, h1, h2⟩ := r
  exact ⟨cur, h1, fun i hi => by rw [h2 i hi, e i hi]⟩
theorem PreIs.of_block (r : PreIs w b t n f) (e : w'.heap[b]? = w.heap[b]?) : PreIs w' b t n f := by
  obtain ⟨cur, h1, h2⟩ := r
  exact ⟨cur, e.trans h1, h2⟩
theorem PreIs.set (r : PreIs w b t n f) (i : Nat) (v : Value) : PreIs (w.setCell ⟨b, i, none⟩ v) b t n (fun j => if j = i then v else f j) := by
  obtain ⟨cur, h1, h2⟩ := r
  refine ⟨cur.setIfInBounds i v, by simp [World.setCell, Array.getElem?_modify, h1], fun j hj => ?_⟩
  have hc := h2 j hj
  rw [Array.getElem?_setIfInBounds]
  by_cases e : i = j
  · subst e
    have := (Array.getElem?_eq_some_iff.1 hc).1
    simp [this]
  · have e' : ¬ j = i := fun h => e h.symm
    simp [e, e', hc]
theorem PreIs.far (r : PreIs w b t n f) {p : Addr} (hp : b ≠ p.block) (v : Value) : PreIs (w.setCell p v) b t n f := r.of_block (Below.heap_setCell w p v b hp)
end

/-- Block g is a table of n elements, row i in block G i, its values by a function. -/
structure TabF (ts t : TypeId) (w : World) (g : Nat) (G : Nat → Nat) (n : Nat) (f : Nat → Nat → Int) : Prop where
  top : ∃ C : Nat → Nat, PreIs w g ts n (fun i => .slice (some ⟨G i, 0, none⟩) n (C i))
  row : ∀ i, i < n → PreIs w (G i) t n (fun j => .int .i64 (f i j))
  ne : ∀ i, i < n → g ≠ G i
  inj : ∀ i j, i < n → j < n → i ≠ j → G i ≠ G j

section
variable {ts t : TypeId} {w w' : World} {g : Nat} {G : Nat → Nat} {n : Nat} {f : Nat → Nat → Int}

theorem TabF.lt (h : TabF ts t w g G n f) : g < w.heap.size := by
  obtain ⟨C, r⟩ := h.top
  exact r.lt

theorem TabF.congr {f' : Nat → Nat → Int} (h : TabF ts t w g G n f) (e : ∀ a b, a < n → b < n → f a b = f' a b) : TabF ts t w g G n f' :=
  ⟨h.top, fun i hi => (h.row i hi).congr (fun j hj => by rw [e i j hi hj]), h.ne, h.inj⟩

theorem TabF.set (h : TabF ts t w g G n f) (i j : Nat) (v : Int) (hi : i < n) : TabF ts t (w.setCell ⟨G i, j, none⟩ (.int .i64 v)) g G n (fun a b => if a = i ∧ b = j then v else f a b) := by
  obtain ⟨C, r⟩ := h.top
  refine ⟨⟨C, r.far (h.ne i hi) _⟩, fun a ha => ?_, h.ne, h.inj⟩
  by_cases e : a = i
  · subst e
    refine ((h.row a ha).set j _).congr (fun b _ => ?_)
    by_cases e2 : b = j
    · subst e2; simp
    · simp [e2]
  · refine ((h.row a ha).far (h.inj a i ha hi e) _).congr (fun b _ => ?_)
    simp [e]

theorem TabF.later (h : TabF ts t w g G n f) (hb : Below w.heap.size w w') : TabF ts t w' g G n f := by
  obtain ⟨C, r⟩ := h.top
  exact ⟨⟨C, r.of_block (hb.block g r.lt)⟩, fun i hi => (h.row i hi).of_block (hb.block _ (h.row i hi).lt), h.ne, h.inj⟩

theorem TabF.far {lo hi : Nat} (h : TabF ts t w g G n f) (ht : Touch lo hi w w') (hg : g < lo ∨ hi ≤ g) (hG : ∀ i, i < n → (G i < lo ∨ hi ≤ G i)) : TabF ts t w' g G n f := by
  obtain ⟨C, r⟩ := h.top
  exact ⟨⟨C, r.of_block (ht.block g r.lt hg)⟩, fun i hi => (h.row i hi).of_block (ht.block _ (h.row i hi).lt (hG i hi)), h.ne, h.inj⟩

theorem PreIs.own {m : Nat} {xs : List Int} {b : Nat} (h : PreIs w b t m (fun j => .int .i64 (xs.getD j 0))) (hm : xs.length = m) : OwnB t w b xs := by
  obtain ⟨cur, h1, h3⟩ := h
  exact ⟨cur, h1, fun i hi => h3 i (by omega)⟩

theorem TabF.obj {lo hi : Nat} (h : TabF ts t w g G n f) (h1 : lo ≤ g) (h2 : g < hi) (h3 : ∀ i, i < n → lo ≤ G i ∧ G i < hi) : Obj2 ts t lo hi w (some ⟨g, 0, none⟩) (grid n f) := by
  obtain ⟨C, cur, c1, c3⟩ := h.top
  refine .inr ⟨g, fun i => some ⟨G i, 0, none⟩, C, rfl, h1, h2, ⟨cur, c1, fun i hi => ?_⟩, fun i hi => ?_, fun i j hi hj hne a b ha hb => ?_⟩
  · rw [grid_length] at hi
    rw [c3 i hi, grid_row_length n f i hi]
  · rw [grid_length] at hi
    refine .inr ⟨G i, rfl, (h3 i hi).1, (h3 i hi).2, PreIs.own ((h.row i hi).congr (fun j hj => by rw [grid_at n f i j hi hj])) (grid_row_length n f i hi)⟩
  · rw [grid_length] at hi hj
    cases ha
    cases hb
    exact h.inj i j hi hj hne

theorem TabF.rd (h : TabF ts t w g G n f) : Rd2 w (some ⟨g, 0, none⟩) (grid n f) := by
  have h0 := h.obj (lo := 0) (hi := w.heap.size) (Nat.zero_le _) h.lt (fun i hi => ⟨Nat.zero_le _, (h.row i hi).lt⟩)
  exact h0.rd
end

theorem Obj2.tabF {ts t : TypeId} {w : World} {lo hi n : Nat} {A : Option Addr} {rows : List (List Int)} (hne : ts ≠ t) (h : Obj2 ts t lo hi w A rows) (h1 : 1 ≤ n) (hl : rows.length = n) (hls : ∀ i, i < n → (rows.getD i []).length = n) :
    ∃ (g : Nat) (G : Nat → Nat), A = some ⟨g, 0, none⟩ ∧ lo ≤ g ∧ g < hi ∧ (∀ i, i < n → lo ≤ G i ∧ G i < hi) ∧ TabF ts t w g G n (fun a b => (rows.getD a []).getD b 0) := by
  rcases h with ⟨_, rfl⟩ | ⟨g, R, C, rfl, hlo, hhi, ⟨cur, c1, c2⟩, ho, hd⟩
  · simp at hl; omega
  · have each : ∀ i, i < n → R i = some ⟨((R i).map (·.block)).getD 0, 0, none⟩ ∧ lo ≤ ((R i).map (·.block)).getD 0 ∧ ((R i).map (·.block)).getD 0 < hi ∧ OwnB t w (((R i).map (·.block)).getD 0) (rows.getD i []) := by
      intro i hi'
      rcases ho i (by omega) with ⟨_, e⟩ | ⟨g', e, e1, e2, e3⟩
      · have := hls i hi'
        rw [e] at this
        simp at this
        omega
      · rw [e]
        exact ⟨rfl, e1, e2, e3⟩
    refine ⟨g, fun i => ((R i).map (·.block)).getD 0, rfl, hlo, hhi, fun i hi' => ⟨(each i hi').2.1, (each i hi').2.2.1⟩, ⟨C, cur, c1, fun i hi' => ?_⟩, fun i hi' => ?_, fun i hi' e => ?_, fun i j hi' hj hne' e => ?_⟩
    · rw [c2 i (by omega), hls i hi']
      exact congrArg (fun a => some (Value.slice a n (C i))) (each i hi').1
    · obtain ⟨cur', d1, d2⟩ := (each i hi').2.2.2
      exact ⟨cur', d1, fun j hj => d2 j (by rw [hls i hi']; exact hj)⟩
    · obtain ⟨cur', d1, _⟩ := (each i hi').2.2.2
      rw [← e, c1] at d1
      injection d1 with d1
      injection d1 with _ d1
      exact hne d1
    · exact hd i j (by omega) (by omega) hne' _ _ (each i hi').1 (each j hj).1 e

/-- The table with rows and columns exchanged. -/
def turnL (rows : List (List Int)) : List (List Int) := grid rows.length fun a b => (rows.getD b []).getD a 0
theorem turnL_length (rows : List (List Int)) : (turnL rows).length = rows.length := grid_length _ _

end Go.Proofs.Ytljdfanebjhhmaa
namespace Go.Proofs.Ytljdfanebjhhmaa
open Go Go.RowKit
set_option maxHeartbeats 1000000

theorem rowsI_any (A : Option Addr) (n c : Nat) (rows : List (List Int)) (r : Bool) (w : World) (hn : rows.length = n) (hb : n ≤ 1048576) (hbs : ∀ i, i < rows.length → (rows.getD i []).length ≤ 1048576) (hr : Rd2 w A rows) (hrr : r = true ↔ ∀ i, i < rows.length → Prm (rows.getD i [])) :
    Calls Try.prog 80 #[.slice A n c] w fun e w' => e = .returned (.bool r) ∧ Below w.heap.size w w' := by
  have HN := hide hn
  have HR := hide hrr
  clear hn hrr
  go_enter Try.func80, Try.ntmps80
  go_wp2_with fail
  skip
  go_loopw [7] (fun i wr => ∃ k : Nat, k ≤ n ∧ i = .int .i64 k ∧ Below w.heap.size w wr ∧ ∀ i, i < k → Prm (rows.getD i [])) (fun i _ => n - (intOf i).toNat)
  case atStart => exact ⟨0, Nat.zero_le _, rfl, Below.refl _ _, fun i hi => absurd hi (Nat.not_lt_zero _)⟩
  case round =>
    obtain ⟨k, hk, rfl, hbe, hall⟩ := hrel
    have HB := hide hbe
    have HALL := hide hall
    clear hbe hall
    by_cases hlt : k < n
    · obtain ⟨b, o, rfl, _, hc⟩ := (hr.later HB.out) (by have := HN.out; omega)
      obtain ⟨Ak, ck, hcell, hrd⟩ := hc k (by have := HN.out; omega)
      have hbk := hbs k (by have := HN.out; omega)
      obtain ⟨x, hx⟩ : ∃ x, x = rows.getD k [] := ⟨_, rfl⟩
      obtain ⟨m, hm⟩ : ∃ m, x.length = m := ⟨_, rfl⟩
      rw [← hx] at hcell hrd hbk
      rw [hm] at hcell hbk
      have HX := hide hx
      have HM := hide hm
      clear hx hm hc hbs
      have hltz : (k : Int) < n := by omega
      by_cases hp : Prm x
      · have HP := hide hp
        clear hp
        go_wp2_with fail
        refine (isPerm_any _ _ _ x true _ HM.out (by omega) hrd (by simp [HP.out])).mono ?_
        rintro e w1 ⟨rfl, hq1⟩
        have HQ1 := hide hq1
        clear hq1
        go_wp2_with fail
        go_roundw
        case rel =>
          refine ⟨k + 1, by omega, by go_num, HB.out.trans (HQ1.out.mono HB.out.size), fun i hi => ?_⟩
          by_cases e : i = k
          · subst e; rw [← HX.out]; exact HP.out
          · exact HALL.out i (by omega)
        case measure => simp [intOf]; omega
      · have HP := hide hp
        clear hp
        go_wp2_with fail
        refine (isPerm_any _ _ _ x false _ HM.out (by omega) hrd (by simp [HP.out])).mono ?_
        rintro e w1 ⟨rfl, hq1⟩
        have HQ1 := hide hq1
        clear hq1
        go_wp2_with fail
        go_ret
        have : r = false := by
          cases r
          · rfl
          · have h := HR.out.1 rfl k (by have := HN.out; omega)
            rw [← HX.out] at h
            exact absurd h HP.out
        exact ⟨by subst this; rfl, HB.out.trans (HQ1.out.mono HB.out.size)⟩
    · have hkn : k = n := by omega
      subst hkn
      go_wp2_with fail
      go_ret
      have : r = true := HR.out.2 fun i hi => HALL.out i (by have := HN.out; omega)
      exact ⟨by subst this; rfl, HB.out⟩
end Go.Proofs.Ytljdfanebjhhmaa
