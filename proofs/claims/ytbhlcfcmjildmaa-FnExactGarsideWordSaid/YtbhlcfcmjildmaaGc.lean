import Derived.Test.YtbhlcfcmjildmaaGa
import Derived.Test.YtbhlcfcmjildmaaGb
import Derived.Test.YtbhlcfcmjildmaaProg
namespace Go.Proofs.Ytbhlcfcmjildmaa
open Go Go.RowKit

theorem bcell {W w1 : World} (hb : Below W.heap.size W w1) : (∀ b o, b < W.heap.size → w1.cell? ⟨b, o, none⟩ = W.cell? ⟨b, o, none⟩) ∧ (∀ b o, b < W.heap.size → w1.frozen? ⟨b, o, none⟩ = W.frozen? ⟨b, o, none⟩) :=
  ⟨fun b o h => hb.cell (p := ⟨b, o, none⟩) h, fun b o h => hb.frozen (p := ⟨b, o, none⟩) h⟩

/-- The world at the end of a walk under a name of its own. -/
theorem bp_gen {P : Program} {f : Func} {Q : Ending → World → Prop} {x : Exit} {a : Act} {w : World} (h : ∀ wf, wf = w → bodyPost P f Q x a wf) : bodyPost P f Q x a w := h w rfl

theorem wp_gen {P : Program} {c : Code} {Q : Exit → Act → World → Prop} {a : Act} {w : World} (h : ∀ wf, wf = w → Code.wp P c Q a wf) : Code.wp P c Q a w := h w rfl
theorem calls_gen {P : Program} {f : FuncId} {args : Array Value} {w : World} {Q : Ending → World → Prop} (h : ∀ wf, wf = w → Calls P f args wf Q) : Calls P f args w Q := h w rfl

theorem bdrewN {B : Nat} {w w' : World} (h : Below B w w') (n : Nat) : Below B w (w'.drewN n) := h.trans ((Quiet.of w' n).below B)

theorem eq_below {a b : World} (h : a = b) : Below b.heap.size b a := h ▸ Below.refl _ _
theorem drew_below {a b : World} (h : a = b.drew) : Below b.heap.size b a := h ▸ (Below.refl _ _).drew

/-- Block b is just the cells cs. -/
def Blk (w : World) (b : Nat) (t : TypeId) (cs : List Value) : Prop := w.heap[b]? = some (.cells cs.toArray t (0, 0))

section
variable {w w' : World} {b B : Nat} {t : TypeId} {cs : List Value}
theorem Blk.new (w : World) (t : TypeId) (cs : List Value) : Blk (w.alloc (.cells cs.toArray t)) w.heap.size t cs := heap_alloc_new _ _
theorem Blk.lt (h : Blk w b t cs) : b < w.heap.size := (Array.getElem?_eq_some_iff.1 h).1
theorem Blk.cell (h : Blk w b t cs) (i : Nat) (v : Value) (hi : cs[i]? = some v) : w.cell? ⟨b, i, none⟩ = some v := by
  rw [cell_of_row w b i _ t (0, 0) h]
  simpa using hi
theorem Blk.frozen (h : Blk w b t cs) (i : Nat) : w.frozen? ⟨b, i, none⟩ = false := by
  unfold Blk at h
  simp [World.frozen?, h]
theorem Blk.set (h : Blk w b t cs) (i : Nat) (v : Value) : Blk (w.setCell ⟨b, i, none⟩ v) b t (cs.set i v) := by
  unfold Blk at h ⊢
  simp [World.setCell, Array.getElem?_modify, h]
theorem Blk.far (h : Blk w b t cs) {p : Addr} (hp : b ≠ p.block) (v : Value) : Blk (w.setCell p v) b t cs := (Below.heap_setCell w p v b hp).trans h
theorem Blk.later (h : Blk w b t cs) (hb : Below w.heap.size w w') : Blk w' b t cs := (hb.block b h.lt).trans h
theorem Blk.alloc (h : Blk w b t cs) (o : Obj) : Blk (w.alloc o) b t cs := h.later ((Below.refl _ _).alloc (Nat.le_refl _) _)
theorem Blk.touch {lo hi : Nat} (h : Blk w b t cs) (ht : Touch lo hi w w') (hs : b < lo ∨ hi ≤ b) : Blk w' b t cs := (ht.block b h.lt hs).trans h
theorem Blk.drew (h : Blk w b t cs) : Blk w.drew b t cs := h
theorem Blk.drewN (h : Blk w b t cs) (n : Nat) : Blk (w.drewN n) b t cs := h.later ((Quiet.of w n).below _)
end

theorem Obj1.set {t : TypeId} {lo hi : Nat} {w : World} {A : Option Addr} {xs : List Int} (h : Obj1 t lo hi w A xs) {p : Addr} (hp : p.block < lo ∨ hi ≤ p.block) (v : Value) : Obj1 t lo hi (w.setCell p v) A xs :=
  h.far (lo2 := p.block) (hi2 := p.block + 1) ⟨rfl, rfl, rfl, by simp [World.setCell], fun k _ hne => Below.heap_setCell w p v k (by omega)⟩ (by omega)
theorem Obj2.set {ts t : TypeId} {lo hi : Nat} {w : World} {A : Option Addr} {rows : List (List Int)} (h : Obj2 ts t lo hi w A rows) {p : Addr} (hp : p.block < lo ∨ hi ≤ p.block) (v : Value) : Obj2 ts t lo hi (w.setCell p v) A rows :=
  h.far (lo2 := p.block) (hi2 := p.block + 1) ⟨rfl, rfl, rfl, by simp [World.setCell], fun k _ hne => Below.heap_setCell w p v k (by omega)⟩ (by omega)
theorem Touch.alloc {lo hi : Nat} {w w' : World} (h : Touch lo hi w w') (o : Obj) : Touch lo hi w (w'.alloc o) :=
  ⟨h.os, h.tape, h.output, Nat.le_trans h.size (by simp), fun k hk hne => by
    have e : (w'.alloc o).heap[k]? = w'.heap[k]? := ((Below.refl w'.heap.size w').alloc (Nat.le_refl _) o).block k (by have := h.size; omega)
    rw [e]
    exact h.block k hk hne⟩
end Go.Proofs.Ytbhlcfcmjildmaa
namespace Go.Proofs.Ytbhlcfcmjildmaa
open Go Go.RowKit

theorem copyT (A : Option Addr) (n c : Nat) (rows : List (List Int)) (w : World) (hn : rows.length = n) (hb : n ≤ 1048576) (hbs : ∀ i, i < rows.length → (rows.getD i []).length ≤ 1048576) (hr : Rd2 w A rows) :
    Calls Try.prog 33 #[.slice A n c] w fun e w' => ∃ A', e = .returned (.slice A' n n) ∧ Below w.heap.size w w' ∧ Obj2 26 2 w.heap.size w'.heap.size w' A' rows :=
  (toInt64SS_any A n c rows w hn hb hbs hr).mono fun _ _ ⟨he, hb, ht, hs⟩ => ⟨_, he, hb, ht.obj (Nat.le_refl _) (by omega) (fun i hi => by omega) (fun i j hi hj hne => by omega)⟩
end Go.Proofs.Ytbhlcfcmjildmaa
namespace Go.Proofs.Ytbhlcfcmjildmaa
open Go Go.RowKit
set_option maxHeartbeats 1000000

theorem markR (t : TypeId) (lo hi : Nat) (A : Option Addr) (n c : Nat) (k : Int) (xs : List Int) (w : World) (hn : xs.length = n) (hb : n ≤ 4194304) (hk : 0 ≤ k) (hk2 : k ≤ 4611686018427387904) (hr : Obj1 t lo hi w A xs) :
    Calls Try.prog 14 #[.slice A n c, .int .i64 k] w fun e w' => e = .returned (.int .i64 (k + n)) ∧ Touch lo hi w w' ∧ Obj1 t lo hi w' A (marks k n) :=
  (mark_any t lo A n c k xs w hn hb hk hk2 (hr.res (Nat.le_refl _))).mono fun _ w' ⟨he, ho, hr'⟩ => ⟨he, .of_only ho hr.bounds, by
    rcases hr' with h | ⟨g, h1, h2, h3⟩
    · exact .inl h
    · exact .inr ⟨g, h1, h2, (hr.bounds _ h1).2, h3⟩⟩

/-- Between the rounds of the marking of rows: the first i rows are marked. -/
theorem row_between (k : Int) (rows : List (List Int)) (i j : Nat) (hj : j < rows.length) : (((marks2 k rows).take i ++ rows.drop i).getD j []).length = (rows.getD j []).length := by
  have hm := marks2_length k rows
  simp only [List.getD_eq_getElem?_getD]
  by_cases h : j < i
  · have h1 : j < ((marks2 k rows).take i).length := by simp; omega
    rw [List.getElem?_append_left h1, List.getElem?_take, if_pos h]
    have e := marks2_getD k rows j hj
    simp only [List.getD_eq_getElem?_getD] at e
    rw [e, marks_length]
  · have h1 : ((marks2 k rows).take i).length ≤ j := by simp; omega
    rw [List.getElem?_append_right h1, List.getElem?_drop]
    have : ((marks2 k rows).take i).length = min i rows.length := by simp [hm]
    congr 3
    omega

theorem row_at (k : Int) (rows : List (List Int)) (i : Nat) (hi : i < rows.length) : ((marks2 k rows).take i ++ rows.drop i).getD i [] = rows.getD i [] := by
  have hm := marks2_length k rows
  simp only [List.getD_eq_getElem?_getD]
  have h1 : ((marks2 k rows).take i).length = i := by simp; omega
  rw [List.getElem?_append_right (by omega), List.getElem?_drop, h1]
  simp

theorem row_next (k : Int) (rows : List (List Int)) (i : Nat) (hi : i < rows.length) : ((marks2 k rows).take i ++ rows.drop i).set i (marks (k + (tot (rows.take i) : Int)) (rows.getD i []).length) = (marks2 k rows).take (i + 1) ++ rows.drop (i + 1) := by
  have hm := marks2_length k rows
  have h1 : ((marks2 k rows).take i).length = i := by simp; omega
  have h2 : i < (marks2 k rows).length := by omega
  rw [List.set_append_right _ _ (by omega), h1, Nat.sub_self, List.take_succ_eq_append_getElem h2, List.append_assoc]
  congr 1
  rw [List.drop_eq_getElem_cons hi, List.set_cons_zero]
  have e := marks2_getD k rows i hi
  have e2 : (marks2 k rows).getD i [] = (marks2 k rows)[i] := by simp [h2]
  rw [← e, e2]
  rfl

/-- The row i of the object is replaced. -/
theorem Obj2.put {ts t : TypeId} {lo hi : Nat} {w w' : World} {g : Nat} {R : Nat → Option Addr} {C : Nat → Nat} {rows : List (List Int)} {i : Nat} {r : List Int} (hne : ts ≠ t) (_hlo : lo ≤ g) (_hhi : g < hi)
    (hc : ∃ cur : Array Value, w.heap[g]? = some (.cells cur ts (0, 0)) ∧ ∀ i, i < rows.length → cur[i]? = some (.slice (R i) (rows.getD i []).length (C i)))
    (ho : ∀ i, i < rows.length → Obj1 t lo hi w (R i) (rows.getD i []))
    (hd : ∀ i j, i < rows.length → j < rows.length → i ≠ j → ∀ a b, R i = some a → R j = some b → a.block ≠ b.block)
    (hi' : i < rows.length) (hl : r.length = (rows.getD i []).length) (hon : Only (R i) w w') (hnew : Obj1 t lo hi w' (R i) r) :
    (∃ cur : Array Value, w'.heap[g]? = some (.cells cur ts (0, 0)) ∧ ∀ j, j < (rows.set i r).length → cur[j]? = some (.slice (R j) ((rows.set i r).getD j []).length (C j))) ∧
    (∀ j, j < (rows.set i r).length → Obj1 t lo hi w' (R j) ((rows.set i r).getD j [])) := by
  obtain ⟨cur, c1, c2⟩ := hc
  have hgl : g < w.heap.size := (Array.getElem?_eq_some_iff.1 c1).1
  have get : ∀ j, j < rows.length → (rows.set i r).getD j [] = if i = j then r else rows.getD j [] := fun j hj => by
    simp only [List.getD_eq_getElem?_getD, List.getElem?_set]
    by_cases e : i = j
    · subst e; simp [hi']
    · simp [e]
  refine ⟨⟨cur, (hon.block g hgl (fun e => ?_)).trans c1, fun j hj => ?_⟩, fun j hj => ?_⟩
  · cases hR : R i with
    | none => rw [hR] at e; cases e
    | some a =>
      rw [hR] at e
      have e2 : g = a.block := by simpa using e
      rcases ho i hi' with ⟨h, _⟩ | ⟨g', h, _, _, cur', h3, _⟩
      · rw [hR] at h; cases h
      · rw [hR] at h
        cases h
        subst e2
        rw [c1] at h3
        injection h3 with h3
        injection h3 with _ h3
        exact hne h3
  · rw [List.length_set] at hj
    rw [c2 j hj, get j hj]
    by_cases e : i = j
    · subst e; rw [if_pos rfl, hl]
    · rw [if_neg e]
  · rw [List.length_set] at hj
    rw [get j hj]
    by_cases e : i = j
    · subst e; rw [if_pos rfl]; exact hnew
    · rw [if_neg e]
      rcases ho j hj with h | ⟨g', h, h1, h2, h3⟩
      · exact .inl h
      · refine .inr ⟨g', h, h1, h2, h3.of_block (hon.block g' h3.lt (fun e' => ?_))⟩
        cases hR : R i with
        | none => rw [hR] at e'; cases e'
        | some a =>
          rw [hR] at e'
          have e2 : g' = a.block := by simpa using e'
          exact hd i j hi' hj e a ⟨g', 0, none⟩ hR h e2.symm

theorem markT (ts t : TypeId) (hne : ts ≠ t) (lo hi : Nat) (A : Option Addr) (n c : Nat) (k : Int) (rows : List (List Int)) (w : World) (hn : rows.length = n) (hb : n ≤ 1048576) (hbs : ∀ i, i < rows.length → (rows.getD i []).length ≤ 1048576) (htot : tot rows ≤ 2305843009213693952) (hk : 0 ≤ k) (hk2 : k ≤ 2305843009213693952) (hr : Obj2 ts t lo hi w A rows) :
    Calls Try.prog 21 #[.slice A n c, .int .i64 k] w fun e w' => e = .returned (.int .i64 (k + (tot rows : Int))) ∧ Touch lo hi w w' ∧ Obj2 ts t lo hi w' A (marks2 k rows) := by
  have HN := hide hn
  clear hn
  rcases hr with ⟨rfl, rfl⟩ | ⟨g, R, C, rfl, h1, h2, h3, h4, h5⟩
  · have h0 : n = 0 := by have := HN.out; simpa using this.symm
    subst h0
    go_enter Try.func21, Try.ntmps21
    go_wp2_with fail
    refine wp_loop_rounds 1 ?_
    rw [rounds_succ]
    go_wp2_with fail
    go_ret
    exact ⟨by simp [tot], Touch.refl _ _ _, .inl ⟨rfl, rfl⟩⟩
  · have H3 := hide h3
    have H4 := hide h4
    have H5 := hide h5
    have HNE := hide hne
    clear h3 h4 h5 hne
    go_enter Try.func21, Try.ntmps21
    go_wp2_with fail
    go_loopw [1, 5] (fun q i wr => ∃ j : Nat, j ≤ n ∧ i = .int .i64 j ∧ q = .int .i64 (k + (tot (rows.take j) : Int)) ∧ Touch lo hi w wr ∧
        (∃ cur : Array Value, wr.heap[g]? = some (.cells cur ts (0, 0)) ∧ ∀ i, i < ((marks2 k rows).take j ++ rows.drop j).length → cur[i]? = some (.slice (R i) (((marks2 k rows).take j ++ rows.drop j).getD i []).length (C i))) ∧
        (∀ i, i < ((marks2 k rows).take j ++ rows.drop j).length → Obj1 t lo hi wr (R i) (((marks2 k rows).take j ++ rows.drop j).getD i []))) (fun _ i _ => n - (intOf i).toNat)
    case atStart => exact ⟨0, Nat.zero_le _, rfl, by simp [tot], Touch.refl _ _ _, by simpa using H3.out, by simpa using H4.out⟩
    case round =>
      obtain ⟨j, hj, rfl, rfl, ht, hc, ho⟩ := hrel
      have HT := hide ht
      have HC := hide hc
      have HO := hide ho
      clear ht hc ho
      have hm := marks2_length k rows
      have HM := hide hm
      have hl : ((marks2 k rows).take j ++ rows.drop j).length = n := by have := HN.out; simp; omega
      have HL := hide hl
      clear hm hl
      by_cases hlt : j < n
      · have hjr : j < rows.length := by have := HN.out; omega
        have hcell : wr.cell? ⟨g, j, none⟩ = some (.slice (R j) (rows.getD j []).length (C j)) := by
          obtain ⟨cur, c1, c2⟩ := HC.out
          rw [cell_of_row wr g j cur ts (0, 0) c1, c2 j (by rw [HL.out]; exact hlt), row_at k rows j hjr]
        have hobj := HO.out j (by rw [HL.out]; exact hlt)
        rw [row_at k rows j hjr] at hobj
        have hbj := hbs j hjr
        have htj := tot_take_succ rows j hjr
        have hle := tot_take_le rows (j + 1)
        rw [htj] at hle
        have HTJ := hide htj
        have HOBJ := hide hobj
        have HJR := hide hjr
        obtain ⟨m, hm⟩ : ∃ m, (rows.getD j []).length = m := ⟨_, rfl⟩
        rw [hm] at hcell hbj hle
        have HMM := hide hm
        obtain ⟨s, hs⟩ : ∃ s, tot (rows.take j) = s := ⟨_, rfl⟩
        rw [hs] at hle ⊢
        have HS := hide hs
        clear hs hm htj hobj hjr hbs
        have hltz : (j : Int) < n := by omega
        go_wp2_with fail
        refine (mark_any t lo _ _ _ _ (rows.getD j []) _ HMM.out (by omega) (by omega) (by omega) (HOBJ.out.res (Nat.le_refl _))).mono ?_
        rintro e w2 ⟨rfl, hon, hres⟩
        have HON := hide hon
        have HRES := hide hres
        clear hon hres
        go_wp2_with fail
        go_roundw
        case rel =>
          have hnew : Obj1 t lo hi w2 (R j) (marks (k + (s : Int)) m) := by
            rcases HRES.out with h | ⟨g', e1, e2, e3⟩
            · exact .inl h
            · exact .inr ⟨g', e1, e2, (HOBJ.out.bounds _ e1).2, e3⟩
          have hput := Obj2.put (r := marks (k + (s : Int)) m) HNE.out h1 h2 HC.out HO.out (fun a b ha hb hab x y hx hy => H5.out a b (by rw [HL.out] at ha; have := HN.out; omega) (by rw [HL.out] at hb; have := HN.out; omega) hab x y hx hy)
            (by rw [HL.out]; exact hlt) (by rw [row_at k rows j HJR.out, HMM.out, marks_length]) HON.out hnew
          have e := row_next k rows j HJR.out
          rw [HS.out, HMM.out] at e
          rw [e] at hput
          exact ⟨j + 1, by omega, by go_num, by rw [HTJ.out, HS.out, HMM.out]; go_num, HT.out.trans (.of_only HON.out HOBJ.out.bounds), hput.1, hput.2⟩
        case measure => simp [intOf]; omega
      · have hjn : j = n := by omega
        subst hjn
        go_wp2_with fail
        go_ret
        have hN := HN.out
        have hM := HM.out
        have e : (marks2 k rows).take j ++ rows.drop j = marks2 k rows := by
          rw [List.take_of_length_le (by omega), List.drop_of_length_le (by omega), List.append_nil]
        have hc := HC.out
        have ho := HO.out
        rw [e] at hc ho
        refine ⟨by rw [List.take_of_length_le (by omega)]; rfl, HT.out, .inr ⟨g, R, C, rfl, h1, h2, hc, ho, fun a b ha hb hab x y hx hy => H5.out a b (by omega) (by omega) hab x y hx hy⟩⟩

theorem heldT (A : Option Addr) (n c : Nat) (k : Int) (rows : List (List Int)) (w : World) (hn : rows.length = n) (hb : n ≤ 1048576) (hbs : ∀ i, i < rows.length → (rows.getD i []).length ≤ 1048576) (htot : tot rows ≤ 2305843009213693952) (hk : 0 ≤ k) (hk2 : k ≤ 2305843009213693952) (hr : Rd2 w A (marks2 k rows)) :
    Calls Try.prog 22 #[.slice A n c, .int .i64 k] w fun e w' => e = .returned (.int .i64 (k + (tot rows : Int))) ∧ Quiet w w' := by
  have HN := hide hn
  clear hn
  go_enter Try.func22, Try.ntmps22
  go_wp2_with fail
  go_loopw [1, 5] (fun q i wr => ∃ j : Nat, j ≤ n ∧ i = .int .i64 j ∧ q = .int .i64 (k + (tot (rows.take j) : Int)) ∧ Quiet w wr) (fun _ i _ => n - (intOf i).toNat)
  case atStart => exact ⟨0, Nat.zero_le _, rfl, by simp [tot], Quiet.refl _⟩
  case round =>
    obtain ⟨j, hj, rfl, rfl, hq⟩ := hrel
    have HQ := hide hq
    clear hq
    by_cases hlt : j < n
    · have hjr : j < rows.length := by have := HN.out; omega
      obtain ⟨b, o, rfl, hbw, hc⟩ := HQ.out.rd2 hr (by rw [marks2_length]; omega)
      obtain ⟨Aj, cj, hcell, hrd⟩ := hc j (by rw [marks2_length]; omega)
      rw [marks2_getD k rows j hjr] at hcell hrd
      rw [marks_length] at hcell
      have hbj := hbs j hjr
      have htj := tot_take_succ rows j hjr
      have hle := tot_take_le rows (j + 1)
      rw [htj] at hle
      have HTJ := hide htj
      obtain ⟨m, hm⟩ : ∃ m, (rows.getD j []).length = m := ⟨_, rfl⟩
      rw [hm] at hcell hbj hle hrd
      have HMM := hide hm
      obtain ⟨s, hs⟩ : ∃ s, tot (rows.take j) = s := ⟨_, rfl⟩
      rw [hs] at hle hrd ⊢
      have HS := hide hs
      have HRD := hide hrd
      clear hs hm htj hrd hc hr hjr hbs
      have hltz : (j : Int) < n := by omega
      go_wp2_with fail
      refine (held_any _ _ _ _ _ (by omega) (by omega) (by omega) HRD.out).mono ?_
      rintro e w2 ⟨rfl, hq2⟩
      have HQ2 := hide hq2
      clear hq2
      have hnn : ¬ (k + (s : Int) + (m : Int) < 0) := by omega
      go_wp2_with fail
      go_roundw
      case rel => exact ⟨j + 1, by omega, by go_num, by rw [HTJ.out, HS.out, HMM.out]; go_num, HQ.out.trans HQ2.out⟩
      case measure => simp [intOf]; omega
    · have hjn : j = n := by omega
      subst hjn
      go_wp2_with fail
      go_ret
      exact ⟨by rw [List.take_of_length_le (by have := HN.out; omega)]; rfl, HQ.out⟩
end Go.Proofs.Ytbhlcfcmjildmaa
namespace Go.Proofs.Ytbhlcfcmjildmaa
open Go Go.RowKit

/-- The n times n table of a function. -/
def grid (n : Nat) (f : Nat → Nat → Int) : List (List Int) := (List.range n).map fun (a : Nat) => (List.range n).map fun (b : Nat) => f a b

theorem grid_length (n : Nat) (f : Nat → Nat → Int) : (grid n f).length = n := by simp [grid]
theorem grid_row (n : Nat) (f : Nat → Nat → Int) (a : Nat) (h : a < n) : (grid n f).getD a [] = (List.range n).map fun (b : Nat) => f a b := by simp [grid, h]
theorem grid_row_length (n : Nat) (f : Nat → Nat → Int) (a : Nat) (h : a < n) : ((grid n f).getD a []).length = n := by rw [grid_row n f a h]; simp
theorem grid_at (n : Nat) (f : Nat → Nat → Int) (a b : Nat) (ha : a < n) (hb : b < n) : ((grid n f).getD a []).getD b 0 = f a b := by rw [grid_row n f a ha]; simp [hb]
theorem grid_congr (n : Nat) (f g : Nat → Nat → Int) (h : ∀ a b, a < n → b < n → f a b = g a b) : grid n f = grid n g := by
  unfold grid
  refine List.map_congr_left fun a ha => List.map_congr_left fun b hb => h a b (List.mem_range.1 ha) (List.mem_range.1 hb)

/-- Block b begins with n cells, cell i holding f i. -/
def PreIs (w : World) (b : Nat) (t : TypeId) (n : Nat) (f : Nat → Value) : Prop :=
  ∃ cur : Array Value, w.heap[b]? = some (.cells cur t (0, 0)) ∧ ∀ i, i < n → cur[i]? = some (f i)

section
variable {w w' : World} {b : Nat} {t : TypeId} {n : Nat} {f h : Nat → Value}
theorem PreIs.of_row (r : w.rowIs b t n f) : PreIs w b t n f := by
  obtain ⟨cur, h1, _, h3⟩ := r
  exact ⟨cur, h1, h3⟩
theorem PreIs.lt (r : PreIs w b t n f) : b < w.heap.size := by
  obtain ⟨cur, h1, _⟩ := r
  exact (Array.getElem?_eq_some_iff.1 h1).1
theorem PreIs.cell (r : PreIs w b t n f) {i : Nat} (hi : i < n) : w.cell? ⟨b, i, none⟩ = some (f i) := by
  obtain ⟨cur, h1, h2⟩ := r
  rw [cell_of_row w b i cur t (0, 0) h1]
  exact h2 i hi
theorem PreIs.frozen (r : PreIs w b t n f) (i : Nat) : w.frozen? ⟨b, i, none⟩ = false := by
  obtain ⟨cur, h1, _⟩ := r
  simp [World.frozen?, h1]
theorem PreIs.congr (r : PreIs w b t n f) (e : ∀ i, i < n → f i = h i) : PreIs w b t n h := by
  obtain ⟨cur, h1, h2⟩ := r
  exact ⟨cur, h1, fun i hi => by rw [h2 i hi, e i hi]⟩
theorem PreIs.of_block (r : PreIs w b t n f) (e : w'.heap[b]? = w.heap[b]?) : PreIs w' b t n f := by
  obtain ⟨cur, h1, h2⟩ := r
  exact ⟨cur, e.trans h1, h2⟩
theorem PreIs.set (r : PreIs w b t n f) (i : Nat) (v : Value) : PreIs (w.setCell ⟨b, i, none⟩ v) b t n (fun j => if j = i then v else f j) := by
  obtain ⟨cur, h1, h2⟩ := r
  refine ⟨cur.setIfInBounds i v, by simp [World.setCell, Array.getElem?_modify, h1], fun j hj => ?_⟩
  have hc := h2 j hj
  rw [Array.getElem?_setIfInBounds]
  by_cases e : i = j
  · subst e
    have := (Array.getElem?_eq_some_iff.1 hc).1
    simp [this]
  · have e' : ¬ j = i := fun h => e h.symm
    simp [e, e', hc]
theorem PreIs.far (r : PreIs w b t n f) {p : Addr} (hp : b ≠ p.block) (v : Value) : PreIs (w.setCell p v) b t n f := r.of_block (Below.heap_setCell w p v b hp)
end

/-- Block g is a table of n elements, row i in block G i, its values by a function. -/
structure TabF (ts t : TypeId) (w : World) (g : Nat) (G : Nat → Nat) (n : Nat) (f : Nat → Nat → Int) : Prop where
  top : ∃ C : Nat → Nat, PreIs w g ts n (fun i => .slice (some ⟨G i, 0, none⟩) n (C i))
  row : ∀ i, i < n → PreIs w (G i) t n (fun j => .int .i64 (f i j))
  ne : ∀ i, i < n → g ≠ G i
  inj : ∀ i j, i < n → j < n → i ≠ j → G i ≠ G j

section
variable {ts t : TypeId} {w w' : World} {g : Nat} {G : Nat → Nat} {n : Nat} {f : Nat → Nat → Int}

theorem TabF.lt (h : TabF ts t w g G n f) : g < w.heap.size := by
  obtain ⟨C, r⟩ := h.top
  exact r.lt

theorem TabF.congr {f' : Nat → Nat → Int} (h : TabF ts t w g G n f) (e : ∀ a b, a < n → b < n → f a b = f' a b) : TabF ts t w g G n f' :=
  ⟨h.top, fun i hi => (h.row i hi).congr (fun j hj => by rw [e i j hi hj]), h.ne, h.inj⟩

theorem TabF.set (h : TabF ts t w g G n f) (i j : Nat) (v : Int) (hi : i < n) : TabF ts t (w.setCell ⟨G i, j, none⟩ (.int .i64 v)) g G n (fun a b => if a = i ∧ b = j then v else f a b) := by
  obtain ⟨C, r⟩ := h.top
  refine ⟨⟨C, r.far (h.ne i hi) _⟩, fun a ha => ?_, h.ne, h.inj⟩
  by_cases e : a = i
  · subst e
    refine ((h.row a ha).set j _).congr (fun b _ => ?_)
    by_cases e2 : b = j
    · subst e2; simp
    · simp [e2]
  · refine ((h.row a ha).far (h.inj a i ha hi e) _).congr (fun b _ => ?_)
    simp [e]

theorem TabF.later (h : TabF ts t w g G n f) (hb : Below w.heap.size w w') : TabF ts t w' g G n f := by
  obtain ⟨C, r⟩ := h.top
  exact ⟨⟨C, r.of_block (hb.block g r.lt)⟩, fun i hi => (h.row i hi).of_block (hb.block _ (h.row i hi).lt), h.ne, h.inj⟩

theorem TabF.far {lo hi : Nat} (h : TabF ts t w g G n f) (ht : Touch lo hi w w') (hg : g < lo ∨ hi ≤ g) (hG : ∀ i, i < n → (G i < lo ∨ hi ≤ G i)) : TabF ts t w' g G n f := by
  obtain ⟨C, r⟩ := h.top
  exact ⟨⟨C, r.of_block (ht.block g r.lt hg)⟩, fun i hi => (h.row i hi).of_block (ht.block _ (h.row i hi).lt (hG i hi)), h.ne, h.inj⟩

theorem PreIs.own {m : Nat} {xs : List Int} {b : Nat} (h : PreIs w b t m (fun j => .int .i64 (xs.getD j 0))) (hm : xs.length = m) : OwnB t w b xs := by
  obtain ⟨cur, h1, h3⟩ := h
  exact ⟨cur, h1, fun i hi => h3 i (by omega)⟩

theorem TabF.obj {lo hi : Nat} (h : TabF ts t w g G n f) (h1 : lo ≤ g) (h2 : g < hi) (h3 : ∀ i, i < n → lo ≤ G i ∧ G i < hi) : Obj2 ts t lo hi w (some ⟨g, 0, none⟩) (grid n f) := by
  obtain ⟨C, cur, c1, c3⟩ := h.top
  refine .inr ⟨g, fun i => some ⟨G i, 0, none⟩, C, rfl, h1, h2, ⟨cur, c1, fun i hi => ?_⟩, fun i hi => ?_, fun i j hi hj hne a b ha hb => ?_⟩
  · rw [grid_length] at hi
    rw [c3 i hi, grid_row_length n f i hi]
  · rw [grid_length] at hi
    refine .inr ⟨G i, rfl, (h3 i hi).1, (h3 i hi).2, PreIs.own ((h.row i hi).congr (fun j hj => by rw [grid_at n f i j hi hj])) (grid_row_length n f i hi)⟩
  · rw [grid_length] at hi hj
    cases ha
    cases hb
    exact h.inj i j hi hj hne

theorem TabF.rd (h : TabF ts t w g G n f) : Rd2 w (some ⟨g, 0, none⟩) (grid n f) := by
  have h0 := h.obj (lo := 0) (hi := w.heap.size) (Nat.zero_le _) h.lt (fun i hi => ⟨Nat.zero_le _, (h.row i hi).lt⟩)
  exact h0.rd
end

theorem Obj2.tabF {ts t : TypeId} {w : World} {lo hi n : Nat} {A : Option Addr} {rows : List (List Int)} (hne : ts ≠ t) (h : Obj2 ts t lo hi w A rows) (h1 : 1 ≤ n) (hl : rows.length = n) (hls : ∀ i, i < n → (rows.getD i []).length = n) :
    ∃ (g : Nat) (G : Nat → Nat), A = some ⟨g, 0, none⟩ ∧ lo ≤ g ∧ g < hi ∧ (∀ i, i < n → lo ≤ G i ∧ G i < hi) ∧ TabF ts t w g G n (fun a b => (rows.getD a []).getD b 0) := by
  rcases h with ⟨_, rfl⟩ | ⟨g, R, C, rfl, hlo, hhi, ⟨cur, c1, c2⟩, ho, hd⟩
  · simp at hl; omega
  · have each : ∀ i, i < n → R i = some ⟨((R i).map (·.block)).getD 0, 0, none⟩ ∧ lo ≤ ((R i).map (·.block)).getD 0 ∧ ((R i).map (·.block)).getD 0 < hi ∧ OwnB t w (((R i).map (·.block)).getD 0) (rows.getD i []) := by
      intro i hi'
      rcases ho i (by omega) with ⟨_, e⟩ | ⟨g', e, e1, e2, e3⟩
      · have := hls i hi'
        rw [e] at this
        simp at this
        omega
      · rw [e]
        exact ⟨rfl, e1, e2, e3⟩
    refine ⟨g, fun i => ((R i).map (·.block)).getD 0, rfl, hlo, hhi, fun i hi' => ⟨(each i hi').2.1, (each i hi').2.2.1⟩, ⟨C, cur, c1, fun i hi' => ?_⟩, fun i hi' => ?_, fun i hi' e => ?_, fun i j hi' hj hne' e => ?_⟩
    · rw [c2 i (by omega), hls i hi']
      exact congrArg (fun a => some (Value.slice a n (C i))) (each i hi').1
    · obtain ⟨cur', d1, d2⟩ := (each i hi').2.2.2
      exact ⟨cur', d1, fun j hj => d2 j (by rw [hls i hi']; exact hj)⟩
    · obtain ⟨cur', d1, _⟩ := (each i hi').2.2.2
      rw [← e, c1] at d1
      injection d1 with d1
      injection d1 with _ d1
      exact hne d1
    · exact hd i j (by omega) (by omega) hne' _ _ (each i hi').1 (each j hj).1 e

/-- The table with rows and columns exchanged. -/
def turnL (rows : List (List Int)) : List (List Int) := grid rows.length fun a b => (rows.getD b []).getD a 0
theorem turnL_length (rows : List (List Int)) : (turnL rows).length = rows.length := grid_length _ _

end Go.Proofs.Ytbhlcfcmjildmaa
namespace Go.Proofs.Ytbhlcfcmjildmaa
open Go Go.RowKit
/-! Rows in order, each once: where one stands, and where a new one goes. -/
theorem lessL_irr : ∀ xs : List Int, lessL xs xs = false
  | [] => rfl
  | x :: xs => by simp [lessL, lessL_irr xs]
theorem lessL_trans : ∀ xs ys zs : List Int, lessL xs ys = true → lessL ys zs = true → lessL xs zs = true
  | [], [], _, h, _ => by simp [lessL] at h
  | [], _ :: _, [], _, h => by simp [lessL] at h
  | [], _ :: _, _ :: _, _, _ => by simp [lessL]
  | _ :: _, [], _, h, _ => by simp [lessL] at h
  | _ :: _, _ :: _, [], _, h => by simp [lessL] at h
  | x :: xs, y :: ys, z :: zs, h, k => by
    simp only [lessL] at h k ⊢
    by_cases e : x = y
    · subst e
      rw [if_pos rfl] at h
      by_cases e2 : x = z
      · subst e2
        rw [if_pos rfl] at k ⊢
        exact lessL_trans xs ys zs h k
      · rw [if_neg e2] at k ⊢
        exact k
    · rw [if_neg e] at h
      have h1 : x < y := by simpa using h
      by_cases e2 : y = z
      · subst e2
        rw [if_neg e]
        exact h
      · rw [if_neg e2] at k
        have h2 : y < z := by simpa using k
        rw [if_neg (by omega)]
        simp; omega
theorem lessL_tri : ∀ xs ys : List Int, xs ≠ ys → lessL xs ys = true ∨ lessL ys xs = true
  | [], [], h => absurd rfl h
  | [], _ :: _, _ => .inl rfl
  | _ :: _, [], _ => .inr rfl
  | x :: xs, y :: ys, h => by
    simp only [lessL]
    by_cases e : x = y
    · subst e
      rw [if_pos rfl, if_pos rfl]
      exact lessL_tri xs ys (fun e => h (by rw [e]))
    · rw [if_neg e, if_neg (Ne.symm e)]
      have : x < y ∨ y < x := by omega
      rcases this with h | h
      · exact .inl (by simpa using h)
      · exact .inr (by simpa using h)
/-- In order, each once. -/
def Asc (l : List (List Int)) : Prop := l.Pairwise fun a b => lessL a b = true
theorem Asc.at {l : List (List Int)} (h : Asc l) {i j : Nat} (hij : i < j) (hj : j < l.length) : lessL (l.getD i []) (l.getD j []) = true := by
  have h2 := List.pairwise_iff_getElem.1 h i j (by omega) hj hij
  have e1 : l.getD i [] = l[i] := by have : i < l.length := (by omega); simp [this]
  have e2 : l.getD j [] = l[j] := by simp [hj]
  rw [e1, e2]
  exact h2
theorem Asc.one (p : List Int) : Asc [p] := by simp [Asc]
theorem Asc.nodup {l : List (List Int)} (h : Asc l) : l.Nodup := List.Pairwise.imp (fun {a b} hab e => by subst e; rw [lessL_irr] at hab; cases hab) h
theorem Asc.eq : ∀ {l m : List (List Int)}, Asc l → Asc m → (∀ x, x ∈ l ↔ x ∈ m) → l = m
  | [], [], _, _, _ => rfl
  | [], b :: m, _, _, h => by have := (h b).2 (by simp); cases this
  | a :: l, [], _, _, h => by have := (h a).1 (by simp); cases this
  | a :: l, b :: m, hl, hm, h => by
    have hl2 := List.pairwise_cons.1 hl
    have hm2 := List.pairwise_cons.1 hm
    have hab : a = b := by
      rcases List.mem_cons.1 ((h a).1 (by simp)) with e | e
      · exact e
      · rcases List.mem_cons.1 ((h b).2 (by simp)) with e2 | e2
        · exact e2.symm
        · have h1 := hm2.1 a e
          have h2 := hl2.1 b e2
          have h3 := lessL_trans _ _ _ h1 h2
          rw [lessL_irr] at h3
          cases h3
    subst hab
    have hna : a ∉ l := fun e => by have h3 := hl2.1 a e; rw [lessL_irr] at h3; cases h3
    have hnb : a ∉ m := fun e => by have h3 := hm2.1 a e; rw [lessL_irr] at h3; cases h3
    rw [Asc.eq hl2.2 hm2.2 (fun x => ⟨fun hx => by
      rcases List.mem_cons.1 ((h x).1 (by simp [hx])) with e | e
      · subst e; exact absurd hx hna
      · exact e, fun hx => by
      rcases List.mem_cons.1 ((h x).2 (by simp [hx])) with e | e
      · subst e; exact absurd hx hnb
      · exact e⟩)]
/-- All before lo are less than p, none from hi on. -/
structure Plc (l : List (List Int)) (p : List Int) (lo hi : Nat) : Prop where
  le : lo ≤ hi
  top : hi ≤ l.length
  lt : ∀ i, i < lo → lessL (l.getD i []) p = true
  ge : ∀ i, hi ≤ i → i < l.length → lessL (l.getD i []) p = false
theorem Plc.start (l : List (List Int)) (p : List Int) : Plc l p 0 l.length := ⟨Nat.zero_le _, Nat.le_refl _, fun i hi => by omega, fun i h1 h2 => by omega⟩
theorem Plc.up {l : List (List Int)} {p : List Int} {lo hi m : Nat} (hl : Asc l) (h : Plc l p lo hi) (hm : lo ≤ m ∧ m < hi) (hp : lessL (l.getD m []) p = true) : Plc l p (m + 1) hi :=
  ⟨by omega, h.top, fun i hi2 => by
    by_cases e : i = m
    · rw [e]; exact hp
    · exact lessL_trans _ _ _ (hl.at (i := i) (j := m) (by omega) (by have := h.top; omega)) hp, h.ge⟩
theorem Plc.down {l : List (List Int)} {p : List Int} {lo hi m : Nat} (hl : Asc l) (h : Plc l p lo hi) (hm : lo ≤ m ∧ m < hi) (hp : lessL (l.getD m []) p = false) : Plc l p lo m :=
  ⟨by omega, by have := h.top; omega, h.lt, fun i h1 h2 => by
    by_cases e : i = m
    · rw [e]; exact hp
    · cases hc : lessL (l.getD i []) p with
      | false => rfl
      | true =>
        have := lessL_trans _ _ _ (hl.at (i := m) (j := i) (by omega) h2) hc
        rw [hp] at this
        cases this⟩
theorem Plc.mem {l : List (List Int)} {p : List Int} {k : Nat} (hl : Asc l) (h : Plc l p k k) : p ∈ l ↔ k < l.length ∧ l.getD k [] = p := by
  constructor
  · intro hp
    obtain ⟨i, hi, e⟩ := List.getElem_of_mem hp
    have e1 : l.getD i [] = p := by simp [hi, e]
    by_cases h1 : i < k
    · have := h.lt i h1
      rw [e1, lessL_irr] at this
      cases this
    · by_cases h2 : i = k
      · exact ⟨by omega, by rw [← h2]; exact e1⟩
      · have h3 := hl.at (i := k) (j := i) (by omega) hi
        have h4 := h.ge k (Nat.le_refl _) (by omega)
        rw [e1, h4] at h3
        cases h3
  · rintro ⟨h1, h2⟩
    rw [← h2]
    simp [h1]
/-- p put in at k. -/
def insL (l : List (List Int)) (k : Nat) (p : List Int) : List (List Int) := l.take k ++ p :: l.drop k
theorem insL_length (l : List (List Int)) (k : Nat) (p : List Int) : (insL l k p).length = l.length + 1 := by
  simp [insL]; omega
theorem insL_mem (l : List (List Int)) (k : Nat) (p x : List Int) : x ∈ insL l k p ↔ x = p ∨ x ∈ l := by
  have h : x ∈ l ↔ x ∈ l.take k ∨ x ∈ l.drop k := by
    rw [← List.mem_append, List.take_append_drop]
  rw [h]
  simp only [insL, List.mem_append, List.mem_cons]
  constructor
  · rintro (h | h | h)
    · exact .inr (.inl h)
    · exact .inl h
    · exact .inr (.inr h)
  · rintro (h | h | h)
    · exact .inr (.inl h)
    · exact .inl h
    · exact .inr (.inr h)
theorem Asc.ins {l : List (List Int)} {p : List Int} {k : Nat} (hl : Asc l) (h : Plc l p k k) (hn : p ∉ l) : Asc (insL l k p) := by
  have hs : (l.take k ++ l.drop k).Pairwise fun a b => lessL a b = true := by rw [List.take_append_drop]; exact hl
  obtain ⟨h1, h2, h3⟩ := List.pairwise_append.1 hs
  have hdr : ∀ y, y ∈ l.drop k → lessL p y = true := by
    intro y hy
    obtain ⟨i, hi, e⟩ := List.getElem_of_mem hy
    rw [List.length_drop] at hi
    rw [List.getElem_drop] at e
    have h4 := h.ge (k + i) (by omega) (by omega)
    have e2 : l.getD (k + i) [] = y := by have : k + i < l.length := (by omega); simp [this, e]
    rw [e2] at h4
    rcases lessL_tri p y (fun e3 => by subst e3; exact hn (List.mem_of_mem_drop hy)) with h5 | h5
    · exact h5
    · rw [h4] at h5; cases h5
  have htk : ∀ y, y ∈ l.take k → lessL y p = true := by
    intro y hy
    obtain ⟨i, hi, e⟩ := List.getElem_of_mem hy
    rw [List.length_take] at hi
    rw [List.getElem_take] at e
    have h4 := h.lt i (by omega)
    have e2 : l.getD i [] = y := by have : i < l.length := (by omega); simp [this, e]
    rw [e2] at h4
    exact h4
  refine List.pairwise_append.2 ⟨h1, List.pairwise_cons.2 ⟨hdr, h2⟩, fun a ha b hb => ?_⟩
  rcases List.mem_cons.1 hb with e | e
  · subst e; exact htk a ha
  · exact h3 a ha b e
end Go.Proofs.Ytbhlcfcmjildmaa
namespace Go.Proofs.Ytbhlcfcmjildmaa
open Go Go.RowKit
set_option maxHeartbeats 1000000

def unitN (n : Nat) : List Int := (List.range n).map fun (x : Nat) => (x : Int)
theorem unitN_length (n : Nat) : (unitN n).length = n := by simp [unitN]
theorem unitN_next (n : Nat) : unitN (n + 1) = unitN n ++ [(n : Int)] := by simp [unitN, List.range_succ]
end Go.Proofs.Ytbhlcfcmjildmaa
namespace Go.Proofs.Ytbhlcfcmjildmaa
open Go Go.RowKit
set_option maxHeartbeats 1000000

theorem own_any (b o : Nat) (n c : Nat) (xs : List Int) (w : World) (hn : xs.length = n) (hbn : n ≤ 1048576) (hb : b < w.heap.size) (hc : ∀ i, i < xs.length → w.cell? ⟨b, o + i, none⟩ = some (.int .i64 (xs.getD i 0))) :
    Calls Try.prog 58 #[.slice (some ⟨b, o, none⟩) n c] w fun e w' => ∃ v, e = .returned v ∧ Below w.heap.size w w' ∧ w'.ownsRow w.heap.size 2 1 v n (ints xs) := by
  have HN := hide hn
  have hcc := cl_cells (obj := .cells #[] 2) hc hb
  have HC := hide hcc
  clear hn hc hcc
  obtain ⟨i0, hi, hz0, hz1, hz2⟩ := info_parts clInfo
  go_enter Try.func58, Try.ntmps58
  go_wp2_with (at_builtin; refine wpList_append_own _ rfl _ _ 26 rfl w.heap.size 2 i0 (.int .i64 0) 1 8 Try.underlying26 hi hz0 hz1 hz2 rfl (by decide) _ _ _ rfl (cl_empty w 2) ⟨b, o, none⟩ n c (ints xs) rfl ?c1 HC.out ?c2 ?c3 ?c4 ?c5 ?_)
  case c1 => rw [ints_length]; have := HN.out; omega
  case c2 => intro u hu; simp [ints] at hu; obtain ⟨_, _, rfl⟩ := hu; rfl
  case c3 => unfold maxLen; omega
  case c4 => omega
  case c5 => simp
  intro v' w1 hown' hgrow _
  have HO' := hide hown'
  have HG := hide hgrow
  clear hown' hgrow
  go_wp2_with fail
  go_ret
  have h := HO'.out
  have hB : Below w.heap.size w w1 := ((Below.refl _ _).alloc (Nat.le_refl _) _).grown HG.out (by simp) (fun g hg => ((cl_empty w 2).lt g hg).1)
  exact ⟨v', rfl, hB, h⟩
end Go.Proofs.Ytbhlcfcmjildmaa
namespace Go.Proofs.Ytbhlcfcmjildmaa
open Go Go.RowKit
set_option maxHeartbeats 1000000

theorem same_any (A B : Option Addr) (n c m d : Nat) (xs ys : List Int) (r : Bool) (w : World) (hn : xs.length = n) (hm : ys.length = m) (hb : n ≤ 9223372036854775807) (hb2 : m ≤ 9223372036854775807) (hx : Rd w A xs) (hy : Rd w B ys) (hr : r = true ↔ xs = ys) :
    Calls Try.prog 78 #[.slice A n c, .slice B m d] w fun e w' => e = .returned (.bool r) ∧ Quiet w w' := by
  have HN := hide hn
  have HM := hide hm
  have HR := hide hr
  clear hr
  by_cases hnm : n = m
  · subst hnm
    clear hn hm
    go_enter Try.func78, Try.ntmps78
    go_wp2_with fail
    go_loopw [5] (fun i wr => ∃ k : Nat, k ≤ n ∧ i = .int .i64 k ∧ Quiet w wr ∧ ∀ i, i < k → xs.getD i 0 = ys.getD i 0) (fun i _ => n - (intOf i).toNat)
    case atStart => exact ⟨0, Nat.zero_le _, rfl, Quiet.refl w, fun i hi => absurd hi (Nat.not_lt_zero _)⟩
    case round =>
      obtain ⟨k, hk, rfl, hq, hall⟩ := hrel
      have HQ := hide hq
      clear hq
      have HALL := hide hall
      clear hall
      by_cases hlt : k < n
      · obtain ⟨b, o, rfl, _, hc⟩ := HQ.out.rd hx (by have := HN.out; omega)
        obtain ⟨b2, o2, rfl, _, hc2⟩ := HQ.out.rd hy (by have := HM.out; omega)
        have h1 := hc k (by have := HN.out; omega)
        have h2 := hc2 k (by have := HM.out; omega)
        obtain ⟨x, hx⟩ : ∃ x, x = xs.getD k 0 := ⟨_, rfl⟩
        obtain ⟨y, hy⟩ : ∃ y, y = ys.getD k 0 := ⟨_, rfl⟩
        rw [← hx] at h1
        rw [← hy] at h2
        have HX := hide hx
        have HY := hide hy
        clear hx hy hc hc2
        have hltz : (k : Int) < n := by omega
        by_cases hxy : x = y
        · subst hxy
          go_wp2_with fail
          go_quiet (fail)
          go_wp2_with fail
          go_roundw
          case rel =>
            refine ⟨k + 1, by omega, by go_num, HQ.out.drewN _, fun i hi => ?_⟩
            by_cases e : i = k
            · subst e; rw [← HX.out]; exact HY.out
            · exact HALL.out i (by omega)
          case measure => simp [intOf]; omega
        · have hne : (x != y) = true := by simpa using hxy
          have HNE := hide hxy
          clear hxy
          go_wp2_with fail
          go_quiet (fail)
          go_wp2_with fail
          go_ret
          have : r = false := by
            cases r
            · rfl
            · have e := HR.out.1 rfl
              subst e
              exact absurd (HX.out.trans HY.out.symm) HNE.out
          exact ⟨by subst this; rfl, by first | exact HQ.out | exact HQ.out.drewN _ | exact Quiet.refl _⟩
      · have hkn : k = n := by omega
        subst hkn
        go_wp2_with fail
        go_ret
        have this := HR.out.2 (eqList xs ys (HN.out.trans HM.out.symm) (fun i hi => HALL.out i (by have := HN.out; omega)))
        exact ⟨by subst this; rfl, by first | exact HQ.out | exact HQ.out.drewN _ | exact Quiet.refl _⟩
  · have hne : ((n : Int) != (m : Int)) = true := by simp; omega
    have HNM := hide hnm
    clear hn hm hnm
    go_enter Try.func78, Try.ntmps78
    go_wp2_with fail
    go_ret
    have : r = false := by
      cases r
      · rfl
      · have e := HR.out.1 rfl
        subst e
        exact absurd (HN.out.symm.trans HM.out) HNM.out
    exact ⟨by subst this; rfl, by first | exact HQ.out | exact HQ.out.drewN _ | exact Quiet.refl _⟩

theorem less_any (A B : Option Addr) (n c d : Nat) (xs ys : List Int) (w : World) (hn : xs.length = n) (hm : ys.length = n) (hb : n ≤ 1048576) (hx : Rd w A xs) (hy : Rd w B ys) :
    Calls Try.prog 82 #[.slice A n c, .slice B n d] w fun e w' => e = .returned (.bool (lessL xs ys)) ∧ Quiet w w' := by
  have HN := hide hn
  have HM := hide hm
  clear hn hm
  go_enter Try.func82, Try.ntmps82
  go_wp2_with fail
  go_loopw [5] (fun i wr => ∃ k : Nat, k ≤ n ∧ i = .int .i64 k ∧ Quiet w wr ∧ lessL xs ys = lessL (xs.drop k) (ys.drop k)) (fun i _ => n - (intOf i).toNat)
  case atStart => exact ⟨0, Nat.zero_le _, rfl, Quiet.refl w, rfl⟩
  case round =>
    obtain ⟨k, hk, rfl, hq, hall⟩ := hrel
    have HQ := hide hq
    have HALL := hide hall
    clear hq hall
    by_cases hlt : k < n
    · obtain ⟨b, o, rfl, _, hc⟩ := HQ.out.rd hx (by have := HN.out; omega)
      obtain ⟨b2, o2, rfl, _, hc2⟩ := HQ.out.rd hy (by have := HM.out; omega)
      have h1 := hc k (by have := HN.out; omega)
      have h2 := hc2 k (by have := HM.out; omega)
      have e1 := drop_cons xs k (by have := HN.out; omega)
      have e2 := drop_cons ys k (by have := HM.out; omega)
      obtain ⟨x, hx⟩ : ∃ x, xs.getD k 0 = x := ⟨_, rfl⟩
      obtain ⟨y, hy⟩ : ∃ y, ys.getD k 0 = y := ⟨_, rfl⟩
      rw [hx] at h1 e1
      rw [hy] at h2 e2
      have E1 := hide e1
      have E2 := hide e2
      clear hx hy hc hc2 e1 e2
      have hltz : (k : Int) < n := by omega
      by_cases hxy : x = y
      · subst hxy
        go_wp2_with fail
        go_quiet (fail)
        go_wp2_with fail
        go_roundw
        case rel =>
          refine ⟨k + 1, by omega, by go_num, HQ.out.drewN _, ?_⟩
          rw [HALL.out, E1.out, E2.out, lessL, if_pos rfl]
        case measure => simp [intOf]; omega
      · have hne : (x != y) = true := by simpa using hxy
        have HNE := hide hxy
        clear hxy
        have hres : lessL xs ys = decide (x < y) := by
          rw [HALL.out, E1.out, E2.out, lessL, if_neg HNE.out]
        have HRES := hide hres
        clear hres
        go_wp2_with fail
        go_quiet (fail)
        go_wp2_with fail
        go_quiet (fail)
        go_wp2_with fail
        go_ret
        exact ⟨by rw [HRES.out]; rfl, (HQ.out.drewN _).drewN _⟩
    · have hkn : k = n := by omega
      subst hkn
      go_wp2_with fail
      go_ret
      have h := HALL.out
      rw [List.drop_of_length_le (by have := HN.out; omega), List.drop_of_length_le (by have := HM.out; omega)] at h
      exact ⟨by rw [h]; simp [lessL], HQ.out⟩
end Go.Proofs.Ytbhlcfcmjildmaa
namespace Go.Proofs.Ytbhlcfcmjildmaa
open Go Go.RowKit
set_option maxHeartbeats 1000000

end Go.Proofs.Ytbhlcfcmjildmaa
namespace Go.Proofs.Ytbhlcfcmjildmaa
open Go Go.RowKit
set_option maxHeartbeats 1000000

theorem own_shape_cap {t : TypeId} {w : World} {xs : List Int} {B n : Nat} {v : Value} (h : w.ownsRow B t 1 v n (ints xs)) : ∃ A c, v = .slice A n c ∧ n ≤ c ∧ Res t B w A xs := by
  obtain ⟨A, c, hv, hr⟩ := own_shape h
  refine ⟨A, c, hv, ?_, hr⟩
  rcases h.2 with ⟨h1, h2⟩ | ⟨g, cap, cur, h1, _, _, h2, _⟩
  · omega
  · rw [hv] at h1
    injection h1 with e1 e2 e3
    omega

set_option maxRecDepth 100000 in
theorem cloneN_any (A : Option Addr) (n c : Nat) (xs : List Int) (w : World) (hn : xs.length = n) (hbn : n ≤ 1048576) (hr : Rd w A xs) :
    Calls Try.prog 41 #[.slice A n c] w fun e w' => ∃ A' c', e = .returned (.slice A' n c') ∧ Below w.heap.size w w' ∧ Res 2 w.heap.size w' A' xs ∧ n ≤ c' := by
  have he : ∀ (u : World) (a : Option Addr) (n c : Nat), (binOp .eql 26 (.slice a n c) (.slice none 0 0)).run Try.prog u = .ok (.bool a.isNone) u := fun u a n c => Lib.run_eql_slice_nil u 26 _ a n c 0 0 Try.underlying26
  cases A with
  | none =>
    have h0 : xs = [] := by
      cases xs with
      | nil => rfl
      | cons x xs => obtain ⟨b, o, h, _⟩ := hr (by simp); cases h
    subst h0
    have hn0 : n = 0 := by rw [← hn]; rfl
    subst hn0
    clear hr hn
    go_enter Try.func41, Try.ntmps41
    go_wp2_with fail
    go_ret
    exact ⟨_, _, rfl, Below.refl _ _, .inl ⟨rfl, rfl⟩, Nat.le_refl _⟩
  | some a =>
    have HN := hide hn
    have hcc : ∀ j u, (ints xs)[j]? = some u → (w.alloc (.cells #[] 2)).cell? (a.add j) = some u := by
      intro j u hj
      have hl : j < xs.length := by
        have := (List.getElem?_eq_some_iff.1 hj).1
        rw [ints_length] at this
        exact this
      obtain ⟨b, o, h, hb, hc⟩ := hr (by omega)
      injection h with h
      subst h
      exact cl_cells hc hb j u hj
    have HC := hide hcc
    clear hn hcc hr
    obtain ⟨i0, hi, hz0, hz1, hz2⟩ := info_parts clInfo
    go_enter Try.func41, Try.ntmps41
    go_wp2_with (at_builtin; refine wpList_append_own _ rfl _ _ 26 rfl w.heap.size 2 i0 (.int .i64 0) 1 8 Try.underlying26 hi hz0 hz1 hz2 rfl (by decide) _ _ _ rfl (cl_empty w 2) a n c (ints xs) rfl ?c1 HC.out ?c2 ?c3 ?c4 ?c5 ?_)
    case c1 => rw [ints_length]; have := HN.out; omega
    case c2 => intro u hu; simp [ints] at hu; obtain ⟨_, _, rfl⟩ := hu; rfl
    case c3 => unfold maxLen; omega
    case c4 => omega
    case c5 => simp
    intro v' w1 hown' hgrow _
    have HO' := hide hown'
    have HG := hide hgrow
    clear hown' hgrow
    go_wp2_with fail
    go_ret
    have h := HO'.out
    have hB : Below w.heap.size w w1 := ((Below.refl _ _).alloc (Nat.le_refl _) _).grown HG.out (by simp) (fun g hg => ((cl_empty w 2).lt g hg).1)
    obtain ⟨A', c', hv, hcap, hres⟩ := own_shape_cap h
    exact ⟨A', c', by rw [← hv]; rfl, hB, hres, hcap⟩
end Go.Proofs.Ytbhlcfcmjildmaa
namespace Go.Proofs.Ytbhlcfcmjildmaa
open Go Go.RowKit
set_option maxHeartbeats 1000000

theorem rowsI_any (A : Option Addr) (n c : Nat) (rows : List (List Int)) (r : Bool) (w : World) (hn : rows.length = n) (hb : n ≤ 1048576) (hbs : ∀ i, i < rows.length → (rows.getD i []).length ≤ 1048576) (hr : Rd2 w A rows) (hrr : r = true ↔ ∀ i, i < rows.length → Prm (rows.getD i [])) :
    Calls Try.prog 65 #[.slice A n c] w fun e w' => e = .returned (.bool r) ∧ Below w.heap.size w w' := by
  have HN := hide hn
  have HR := hide hrr
  clear hn hrr
  go_enter Try.func65, Try.ntmps65
  go_wp2_with fail
  skip
  go_loopw [7] (fun i wr => ∃ k : Nat, k ≤ n ∧ i = .int .i64 k ∧ Below w.heap.size w wr ∧ ∀ i, i < k → Prm (rows.getD i [])) (fun i _ => n - (intOf i).toNat)
  case atStart => exact ⟨0, Nat.zero_le _, rfl, Below.refl _ _, fun i hi => absurd hi (Nat.not_lt_zero _)⟩
  case round =>
    obtain ⟨k, hk, rfl, hbe, hall⟩ := hrel
    have HB := hide hbe
    have HALL := hide hall
    clear hbe hall
    by_cases hlt : k < n
    · obtain ⟨b, o, rfl, _, hc⟩ := (hr.later HB.out) (by have := HN.out; omega)
      obtain ⟨Ak, ck, hcell, hrd⟩ := hc k (by have := HN.out; omega)
      have hbk := hbs k (by have := HN.out; omega)
      obtain ⟨x, hx⟩ : ∃ x, x = rows.getD k [] := ⟨_, rfl⟩
      obtain ⟨m, hm⟩ : ∃ m, x.length = m := ⟨_, rfl⟩
      rw [← hx] at hcell hrd hbk
      rw [hm] at hcell hbk
      have HX := hide hx
      have HM := hide hm
      clear hx hm hc hbs
      have hltz : (k : Int) < n := by omega
      by_cases hp : Prm x
      · have HP := hide hp
        clear hp
        go_wp2_with fail
        refine (isPerm_any _ _ _ x true _ HM.out (by omega) hrd (by simp [HP.out])).mono ?_
        rintro e w1 ⟨rfl, hq1⟩
        have HQ1 := hide hq1
        clear hq1
        go_wp2_with fail
        go_roundw
        case rel =>
          refine ⟨k + 1, by omega, by go_num, HB.out.trans (HQ1.out.mono HB.out.size), fun i hi => ?_⟩
          by_cases e : i = k
          · subst e; rw [← HX.out]; exact HP.out
          · exact HALL.out i (by omega)
        case measure => simp [intOf]; omega
      · have HP := hide hp
        clear hp
        go_wp2_with fail
        refine (isPerm_any _ _ _ x false _ HM.out (by omega) hrd (by simp [HP.out])).mono ?_
        rintro e w1 ⟨rfl, hq1⟩
        have HQ1 := hide hq1
        clear hq1
        go_wp2_with fail
        go_ret
        have : r = false := by
          cases r
          · rfl
          · have h := HR.out.1 rfl k (by have := HN.out; omega)
            rw [← HX.out] at h
            exact absurd h HP.out
        exact ⟨by subst this; rfl, HB.out.trans (HQ1.out.mono HB.out.size)⟩
    · have hkn : k = n := by omega
      subst hkn
      go_wp2_with fail
      go_ret
      have : r = true := HR.out.2 fun i hi => HALL.out i (by have := HN.out; omega)
      exact ⟨by subst this; rfl, HB.out⟩
end Go.Proofs.Ytbhlcfcmjildmaa
namespace Go.Proofs.Ytbhlcfcmjildmaa
open Go Go.RowKit
set_option maxHeartbeats 1000000

theorem rowsS_any (A : Option Addr) (n c : Nat) (rows : List (List Int)) (r : Bool) (w : World) (hn : rows.length = n) (hb : n ≤ 1048576) (hbs : ∀ i, i < rows.length → (rows.getD i []).length ≤ 1048576) (hr : Rd2 w A rows) (hrr : r = true ↔ ∀ i, i < rows.length → Prm (rows.getD i [])) :
    Calls Try.prog 55 #[.slice A n c] w fun e w' => e = .returned (.bool r) ∧ Below w.heap.size w w' := by
  have HN := hide hn
  have HR := hide hrr
  clear hn hrr
  go_enter Try.func55, Try.ntmps55
  go_wp2_with fail
  skip
  go_loopw [3] (fun i wr => ∃ k : Nat, k ≤ n ∧ i = .int .i64 k ∧ Below w.heap.size w wr ∧ ∀ i, i < k → Prm (rows.getD i [])) (fun i _ => n - (intOf i).toNat)
  case atStart => exact ⟨0, Nat.zero_le _, rfl, Below.refl _ _, fun i hi => absurd hi (Nat.not_lt_zero _)⟩
  case round =>
    obtain ⟨k, hk, rfl, hbe, hall⟩ := hrel
    have HB := hide hbe
    have HALL := hide hall
    clear hbe hall
    by_cases hlt : k < n
    · obtain ⟨b, o, rfl, _, hc⟩ := (hr.later HB.out) (by have := HN.out; omega)
      obtain ⟨Ak, ck, hcell, hrd⟩ := hc k (by have := HN.out; omega)
      have hbk := hbs k (by have := HN.out; omega)
      obtain ⟨x, hx⟩ : ∃ x, x = rows.getD k [] := ⟨_, rfl⟩
      obtain ⟨m, hm⟩ : ∃ m, x.length = m := ⟨_, rfl⟩
      rw [← hx] at hcell hrd hbk
      rw [hm] at hcell hbk
      have HX := hide hx
      have HM := hide hm
      clear hx hm hc hbs
      have hltz : (k : Int) < n := by omega
      by_cases hp : Prm x
      · have HP := hide hp
        clear hp
        go_wp2_with fail
        refine (prmS_below _ _ _ x true _ HM.out (by omega) hrd (by simp [HP.out])).mono ?_
        rintro e w1 ⟨rfl, hq1⟩
        have HQ1 := hide hq1
        clear hq1
        go_wp2_with fail
        go_roundw
        case rel =>
          refine ⟨k + 1, by omega, by go_num, HB.out.trans (HQ1.out.mono HB.out.size), fun i hi => ?_⟩
          by_cases e : i = k
          · subst e; rw [← HX.out]; exact HP.out
          · exact HALL.out i (by omega)
        case measure => simp [intOf]; omega
      · have HP := hide hp
        clear hp
        go_wp2_with fail
        refine (prmS_below _ _ _ x false _ HM.out (by omega) hrd (by simp [HP.out])).mono ?_
        rintro e w1 ⟨rfl, hq1⟩
        have HQ1 := hide hq1
        clear hq1
        go_wp2_with fail
        go_ret
        have : r = false := by
          cases r
          · rfl
          · have h := HR.out.1 rfl k (by have := HN.out; omega)
            rw [← HX.out] at h
            exact absurd h HP.out
        exact ⟨by subst this; rfl, HB.out.trans (HQ1.out.mono HB.out.size)⟩
    · have hkn : k = n := by omega
      subst hkn
      go_wp2_with fail
      go_ret
      have : r = true := HR.out.2 fun i hi => HALL.out i (by have := HN.out; omega)
      exact ⟨by subst this; rfl, HB.out⟩
end Go.Proofs.Ytbhlcfcmjildmaa
namespace Go.Proofs.Ytbhlcfcmjildmaa
open Go Go.RowKit

/-- The sizes of two tables, at most K. -/
structure ZSz (K : Nat) (f : List (List Int)) (n : Nat) (s : List (List Int)) (m : Nat) : Prop where
  fl : f.length = n
  nb : n ≤ K
  nr : ∀ i, i < f.length → (f.getD i []).length ≤ K
  sl : s.length = m
  mb : m ≤ K
  mr : ∀ i, i < s.length → (s.getD i []).length ≤ K

/-- Two tables that are read in a world. -/
structure ZArg (K : Nat) (w : World) (A : Option Addr) (n : Nat) (f : List (List Int)) (B : Option Addr) (m : Nat) (s : List (List Int)) : Prop where
  sz : ZSz K f n s m
  fst : Rd2 w A f
  snd : Rd2 w B s

theorem ZArg.later {K : Nat} {w w' : World} {A : Option Addr} {n : Nat} {f : List (List Int)} {B : Option Addr} {m : Nat} {s : List (List Int)} (h : ZArg K w A n f B m s) (hb : Below w.heap.size w w') : ZArg K w' A n f B m s :=
  ⟨h.sz, h.fst.later hb, h.snd.later hb⟩

theorem ZSz.tots {f s : List (List Int)} {n m : Nat} (h : ZSz 1048576 f n s m) : tot f + tot s ≤ 2199023255552 := by
  have h1 := tot_bound f (by rw [h.fl]; exact h.nb) h.nr
  have h2 := tot_bound s (by rw [h.sl]; exact h.mb) h.mr
  omega
theorem ZSz.totf {f s : List (List Int)} {n m : Nat} (h : ZSz 1048576 f n s m) : tot f ≤ 1099511627776 := tot_bound f (by rw [h.fl]; exact h.nb) h.nr
theorem ZSz.totg {f s : List (List Int)} {n m : Nat} (h : ZSz 1048576 f n s m) : tot s ≤ 1099511627776 := tot_bound s (by rw [h.sl]; exact h.mb) h.mr
end Go.Proofs.Ytbhlcfcmjildmaa
namespace Go.Proofs.Ytbhlcfcmjildmaa
open Go Go.RowKit

theorem Tbl.rows {rows : List (List Int)} (h : Tbl rows) : ∀ i, i < rows.length → (rows.getD i []).length = rows.length := fun i hi => (h.2.2 i hi).1
theorem Tbl.le {rows : List (List Int)} (h : Tbl rows) : ∀ i, i < rows.length → (rows.getD i []).length ≤ 1048576 := fun i hi => by
  have h1 := h.rows i hi
  have h2 := h.2.1
  omega

theorem bool_of (p : Prop) : ∃ r : Bool, r = true ↔ p := by
  by_cases h : p
  · exact ⟨true, by simp [h]⟩
  · exact ⟨false, by simp [h]⟩

def AllPrm (rows : List (List Int)) : Prop := ∀ i, i < rows.length → Prm (rows.getD i [])

def RowsRes (rows : List (List Int)) (r : Bool) (code : Int) : Prop := (Tbl rows ∧ (r = true ↔ AllPrm rows) ∧ code = 0) ∨ (¬ Tbl rows ∧ r = false ∧ code = 1)
theorem RowsRes.ex (rows : List (List Int)) : ∃ r code, RowsRes rows r code := by
  by_cases h : Tbl rows
  · obtain ⟨r, hr⟩ := bool_of (AllPrm rows)
    exact ⟨r, _, .inl ⟨h, hr, rfl⟩⟩
  · exact ⟨_, _, .inr ⟨h, rfl, rfl⟩⟩

def LatinRes (rows : List (List Int)) (r : Bool) (code : Int) : Prop := (Tbl rows ∧ (r = true ↔ AllPrm rows ∧ AllPrm (turnL rows)) ∧ code = 0) ∨ (¬ Tbl rows ∧ r = false ∧ code = 1)
theorem LatinRes.ex (rows : List (List Int)) : ∃ r code, LatinRes rows r code := by
  by_cases h : Tbl rows
  · obtain ⟨r, hr⟩ := bool_of (AllPrm rows ∧ AllPrm (turnL rows))
    exact ⟨r, _, .inl ⟨h, hr, rfl⟩⟩
  · exact ⟨_, _, .inr ⟨h, rfl, rfl⟩⟩

def TurnRes (rows zs : List (List Int)) (code : Int) : Prop := (Tbl rows ∧ zs = turnL rows ∧ code = 0) ∨ (¬ Tbl rows ∧ zs = [] ∧ code = 1)
theorem TurnRes.ex (rows : List (List Int)) : ∃ zs code, TurnRes rows zs code ∧ zs.length ≤ 1048576 ∧ ∀ i, i < zs.length → (zs.getD i []).length ≤ 1048576 := by
  by_cases h : Tbl rows
  · refine ⟨_, _, .inl ⟨h, rfl, rfl⟩, by rw [turnL_length]; have := h.2.1; omega, fun i hi => ?_⟩
    rw [turnL_length] at hi
    unfold turnL
    rw [grid_row_length _ _ _ hi]
    have := h.2.1
    omega
  · exact ⟨_, _, .inr ⟨h, rfl, rfl⟩, by simp, fun i hi => by simp at hi⟩
end Go.Proofs.Ytbhlcfcmjildmaa
