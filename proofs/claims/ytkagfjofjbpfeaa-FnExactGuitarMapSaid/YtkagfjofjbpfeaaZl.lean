import Derived.Test.YtkagfjofjbpfeaaZh
import Derived.Test.YtkagfjofjbpfeaaZg
namespace Go.Proofs.Ytkagfjofjbpfeaa
open Go Go.RowKit
set_option maxHeartbeats 1000000

theorem markR (t : TypeId) (lo hi : Nat) (A : Option Addr) (n c : Nat) (k : Int) (xs : List Int) (w : World) (hn : xs.length = n) (hb : n ≤ 4194304) (hk : 0 ≤ k) (hk2 : k ≤ 4611686018427387904) (hr : Obj1 t lo hi w A xs) :
    Calls Try.prog 32 #[.slice A n c, .int .i64 k] w fun e w' => e = .returned (.int .i64 (k + n)) ∧ Touch lo hi w w' ∧ Obj1 t lo hi w' A (marks k n) :=
  (mark_any t lo A n c k xs w hn hb hk hk2 (hr.res (Nat.le_refl _))).mono fun _ w' ⟨he, ho, hr'⟩ => ⟨he, .of_only ho hr.bounds, by
    rcases hr' with h | ⟨g, h1, h2, h3⟩
    · exact .inl h
    · exact .inr ⟨g, h1, h2, (hr.bounds _ h1).2, h3⟩⟩

/-- Between the rounds of the marking of rows: the first i rows are marked. -/
theorem row_between (k : Int) (rows : List (List Int)) (i j : Nat) (hj : j < rows.length) : (((marks2 k rows).take i ++ rows.drop i).getD j []).length = (rows.getD j []).length := by
  have hm := marks2_length k rows
  simp only [List.getD_eq_getElem?_getD]
  by_cases h : j < i
  · have h1 : j < ((marks2 k rows).take i).length := by simp; omega
    rw [List.getElem?_append_left h1, List.getElem?_take, if_pos h]
    have e := marks2_getD k rows j hj
    simp only [List.getD_eq_getElem?_getD] at e
    rw [e, marks_length]
  · have h1 : ((marks2 k rows).take i).length ≤ j := by simp; omega
    rw [List.getElem?_append_right h1, List.getElem?_drop]
    have : ((marks2 k rows).take i).length = min i rows.length := by simp [hm]
    congr 3
    omega

theorem row_at (k : Int) (rows : List (List Int)) (i : Nat) (hi : i < rows.length) : ((marks2 k rows).take i ++ rows.drop i).getD i [] = rows.getD i [] := by
  have hm := marks2_length k rows
  simp only [List.getD_eq_getElem?_getD]
  have h1 : ((marks2 k rows).take i).length = i := by simp; omega
  rw [List.getElem?_append_right (by omega), List.getElem?_drop, h1]
  simp

theorem row_next (k : Int) (rows : List (List Int)) (i : Nat) (hi : i < rows.length) : ((marks2 k rows).take i ++ rows.drop i).set i (marks (k + (tot (rows.take i) : Int)) (rows.getD i []).length) = (marks2 k rows).take (i + 1) ++ rows.drop (i + 1) := by
  have hm := marks2_length k rows
  have h1 : ((marks2 k rows).take i).length = i := by simp; omega
  have h2 : i < (marks2 k rows).length := by omega
  rw [List.set_append_right _ _ (by omega), h1, Nat.sub_self, List.take_succ_eq_append_getElem h2, List.append_assoc]
  congr 1
  rw [List.drop_eq_getElem_cons hi, List.set_cons_zero]
  have e := marks2_getD k rows i hi
  have e2 : (marks2 k rows).getD i [] = (marks2 k rows)[i] := by simp [h2]
  rw [← e, e2]
  rfl

/-- The row i of the object is replaced. -/
theorem Obj2.put {ts t : TypeId} {lo hi : Nat} {w w' : World} {g : Nat} {R : Nat → Option Addr} {C : Nat → Nat} {rows : List (List Int)} {i : Nat} {r : List Int} (hne : ts ≠ t) (_hlo : lo ≤ g) (_hhi : g < hi)
    (hc : ∃ cur : Array Value, w.heap[g]? = some (.cells cur ts (0, 0)) ∧ ∀ i, i < rows.length → cur[i]? = some (.slice (R i) (rows.getD i []).length (C i)))
    (ho : ∀ i, i < rows.length → Obj1 t lo hi w (R i) (rows.getD i []))
    (hd : ∀ i j, i < rows.length → j < rows.length → i ≠ j → ∀ a b, R i = some a → R j = some b → a.block ≠ b.block)
    (hi' : i < rows.length) (hl : r.length = (rows.getD i []).length) (hon : Only (R i) w w') (hnew : Obj1 t lo hi w' (R i) r) :
    (∃ cur : Array Value, w'.heap[g]? = some (.cells cur ts (0, 0)) ∧ ∀ j, j < (rows.set i r).length → cur[j]? = some (.slice (R j) ((rows.set i r).getD j []).length (C j))) ∧
    (∀ j, j < (rows.set i r).length → Obj1 t lo hi w' (R j) ((rows.set i r).getD j [])) := by
  obtain ⟨cur, c1, c2⟩ := hc
  have hgl : g < w.heap.size := (Array.getElem?_eq_some_iff.1 c1).1
  have get : ∀ j, j < rows.length → (rows.set i r).getD j [] = if i = j then r else rows.getD j [] := fun j hj => by
    simp only [List.getD_eq_getElem?_getD, List.getElem?_set]
    by_cases e : i = j
    · subst e; simp [hi']
    · simp [e]
  refine ⟨⟨cur, (hon.block g hgl (fun e => ?_)).trans c1, fun j hj => ?_⟩, fun j hj => ?_⟩
  · cases hR : R i with
    | none => rw [hR] at e; cases e
    | some a =>
      rw [hR] at e
      have e2 : g = a.block := by simpa using e
      rcases ho i hi' with ⟨h, _⟩ | ⟨g', h, _, _, cur', h3, _⟩
      · rw [hR] at h; cases h
      · rw [hR] at h
        cases h
        subst e2
        rw [c1] at h3
        injection h3 with h3
        injection h3 with _ h3
        exact hne h3
  · rw [List.length_set] at hj
    rw [c2 j hj, get j hj]
    by_cases e : i = j
    · subst e; rw [if_pos rfl, hl]
    · rw [if_neg e]
  · rw [List.length_set] at hj
    rw [get j hj]
    by_cases e : i = j
    · subst e; rw [if_pos rfl]; exact hnew
    · rw [if_neg e]
      rcases ho j hj with h | ⟨g', h, h1, h2, h3⟩
      · exact .inl h
      · refine .inr ⟨g', h, h1, h2, h3.of_block (hon.block g' h3.lt (fun e' => ?_))⟩
        cases hR : R i with
        | none => rw [hR] at e'; cases e'
        | some a =>
          rw [hR] at e'
          have e2 : g' = a.block := by simpa using e'
          exact hd i j hi' hj e a ⟨g', 0, none⟩ hR h e2.symm

theorem markT (ts t : TypeId) (hne : ts ≠ t) (lo hi : Nat) (A : Option Addr) (n c : Nat) (k : Int) (rows : List (List Int)) (w : World) (hn : rows.length = n) (hb : n ≤ 1048576) (hbs : ∀ i, i < rows.length → (rows.getD i []).length ≤ 1048576) (htot : tot rows ≤ 2305843009213693952) (hk : 0 ≤ k) (hk2 : k ≤ 2305843009213693952) (hr : Obj2 ts t lo hi w A rows) :
    Calls Try.prog 26 #[.slice A n c, .int .i64 k] w fun e w' => e = .returned (.int .i64 (k + (tot rows : Int))) ∧ Touch lo hi w w' ∧ Obj2 ts t lo hi w' A (marks2 k rows) := by
  have HN := hide hn
  clear hn
  rcases hr with ⟨rfl, rfl⟩ | ⟨g, R, C, rfl, h1, h2, h3, h4, h5⟩
  · have h0 : n = 0 := by have := HN.out; simpa using this.symm
    subst h0
    go_enter Try.func26, Try.ntmps26
    go_wp2_with fail
    refine wp_loop_rounds 1 ?_
    rw [rounds_succ]
    go_wp2_with fail
    go_ret
    exact ⟨by simp [tot], Touch.refl _ _ _, .inl ⟨rfl, rfl⟩⟩
  · have H3 := hide h3
    have H4 := hide h4
    have H5 := hide h5
    have HNE := hide hne
    clear h3 h4 h5 hne
    go_enter Try.func26, Try.ntmps26
    go_wp2_with fail
    go_loopw [1, 5] (fun q i wr => ∃ j : Nat, j ≤ n ∧ i = .int .i64 j ∧ q = .int .i64 (k + (tot (rows.take j) : Int)) ∧ Touch lo hi w wr ∧
        (∃ cur : Array Value, wr.heap[g]? = some (.cells cur ts (0, 0)) ∧ ∀ i, i < ((marks2 k rows).take j ++ rows.drop j).length → cur[i]? = some (.slice (R i) (((marks2 k rows).take j ++ rows.drop j).getD i []).length (C i))) ∧
        (∀ i, i < ((marks2 k rows).take j ++ rows.drop j).length → Obj1 t lo hi wr (R i) (((marks2 k rows).take j ++ rows.drop j).getD i []))) (fun _ i _ => n - (intOf i).toNat)
    case atStart => exact ⟨0, Nat.zero_le _, rfl, by simp [tot], Touch.refl _ _ _, by simpa using H3.out, by simpa using H4.out⟩
    case round =>
      obtain ⟨j, hj, rfl, rfl, ht, hc, ho⟩ := hrel
      have HT := hide ht
      have HC := hide hc
      have HO := hide ho
      clear ht hc ho
      have hm := marks2_length k rows
      have HM := hide hm
      have hl : ((marks2 k rows).take j ++ rows.drop j).length = n := by have := HN.out; simp; omega
      have HL := hide hl
      clear hm hl
      by_cases hlt : j < n
      · have hjr : j < rows.length := by have := HN.out; omega
        have hcell : wr.cell? ⟨g, j, none⟩ = some (.slice (R j) (rows.getD j []).length (C j)) := by
          obtain ⟨cur, c1, c2⟩ := HC.out
          rw [cell_of_row wr g j cur ts (0, 0) c1, c2 j (by rw [HL.out]; exact hlt), row_at k rows j hjr]
        have hobj := HO.out j (by rw [HL.out]; exact hlt)
        rw [row_at k rows j hjr] at hobj
        have hbj := hbs j hjr
        have htj := tot_take_succ rows j hjr
        have hle := tot_take_le rows (j + 1)
        rw [htj] at hle
        have HTJ := hide htj
        have HOBJ := hide hobj
        have HJR := hide hjr
        obtain ⟨m, hm⟩ : ∃ m, (rows.getD j []).length = m := ⟨_, rfl⟩
        rw [hm] at hcell hbj hle
        have HMM := hide hm
        obtain ⟨s, hs⟩ : ∃ s, tot (rows.take j) = s := ⟨_, rfl⟩
        rw [hs] at hle ⊢
        have HS := hide hs
        clear hs hm htj hobj hjr hbs
        have hltz : (j : Int) < n := by omega
        go_wp2_with fail
        refine (mark_any t lo _ _ _ _ (rows.getD j []) _ HMM.out (by omega) (by omega) (by omega) (HOBJ.out.res (Nat.le_refl _))).mono ?_
        rintro e w2 ⟨rfl, hon, hres⟩
        have HON := hide hon
        have HRES := hide hres
        clear hon hres
        go_wp2_with fail
        go_roundw
        case rel =>
          have hnew : Obj1 t lo hi w2 (R j) (marks (k + (s : Int)) m) := by
            rcases HRES.out with h | ⟨g', e1, e2, e3⟩
            · exact .inl h
            · exact .inr ⟨g', e1, e2, (HOBJ.out.bounds _ e1).2, e3⟩
          have hput := Obj2.put (r := marks (k + (s : Int)) m) HNE.out h1 h2 HC.out HO.out (fun a b ha hb hab x y hx hy => H5.out a b (by rw [HL.out] at ha; have := HN.out; omega) (by rw [HL.out] at hb; have := HN.out; omega) hab x y hx hy)
            (by rw [HL.out]; exact hlt) (by rw [row_at k rows j HJR.out, HMM.out, marks_length]) HON.out hnew
          have e := row_next k rows j HJR.out
          rw [HS.out, HMM.out] at e
          rw [e] at hput
          exact ⟨j + 1, by omega, by go_num, by rw [HTJ.out, HS.out, HMM.out]; go_num, HT.out.trans (.of_only HON.out HOBJ.out.bounds), hput.1, hput.2⟩
        case measure => simp [intOf]; omega
      · have hjn : j = n := by omega
        subst hjn
        go_wp2_with fail
        go_ret
        have hN := HN.out
        have hM := HM.out
        have e : (marks2 k rows).take j ++ rows.drop j = marks2 k rows := by
          rw [List.take_of_length_le (by omega), List.drop_of_length_le (by omega), List.append_nil]
        have hc := HC.out
        have ho := HO.out
        rw [e] at hc ho
        refine ⟨by rw [List.take_of_length_le (by omega)]; rfl, HT.out, .inr ⟨g, R, C, rfl, h1, h2, hc, ho, fun a b ha hb hab x y hx hy => H5.out a b (by omega) (by omega) hab x y hx hy⟩⟩

theorem heldT (A : Option Addr) (n c : Nat) (k : Int) (rows : List (List Int)) (w : World) (hn : rows.length = n) (hb : n ≤ 1048576) (hbs : ∀ i, i < rows.length → (rows.getD i []).length ≤ 1048576) (htot : tot rows ≤ 2305843009213693952) (hk : 0 ≤ k) (hk2 : k ≤ 2305843009213693952) (hr : Rd2 w A (marks2 k rows)) :
    Calls Try.prog 27 #[.slice A n c, .int .i64 k] w fun e w' => e = .returned (.int .i64 (k + (tot rows : Int))) ∧ Quiet w w' := by
  have HN := hide hn
  clear hn
  go_enter Try.func27, Try.ntmps27
  go_wp2_with fail
  go_loopw [1, 5] (fun q i wr => ∃ j : Nat, j ≤ n ∧ i = .int .i64 j ∧ q = .int .i64 (k + (tot (rows.take j) : Int)) ∧ Quiet w wr) (fun _ i _ => n - (intOf i).toNat)
  case atStart => exact ⟨0, Nat.zero_le _, rfl, by simp [tot], Quiet.refl _⟩
  case round =>
    obtain ⟨j, hj, rfl, rfl, hq⟩ := hrel
    have HQ := hide hq
    clear hq
    by_cases hlt : j < n
    · have hjr : j < rows.length := by have := HN.out; omega
      obtain ⟨b, o, rfl, hbw, hc⟩ := HQ.out.rd2 hr (by rw [marks2_length]; omega)
      obtain ⟨Aj, cj, hcell, hrd⟩ := hc j (by rw [marks2_length]; omega)
      rw [marks2_getD k rows j hjr] at hcell hrd
      rw [marks_length] at hcell
      have hbj := hbs j hjr
      have htj := tot_take_succ rows j hjr
      have hle := tot_take_le rows (j + 1)
      rw [htj] at hle
      have HTJ := hide htj
      obtain ⟨m, hm⟩ : ∃ m, (rows.getD j []).length = m := ⟨_, rfl⟩
      rw [hm] at hcell hbj hle hrd
      have HMM := hide hm
      obtain ⟨s, hs⟩ : ∃ s, tot (rows.take j) = s := ⟨_, rfl⟩
      rw [hs] at hle hrd ⊢
      have HS := hide hs
      have HRD := hide hrd
      clear hs hm htj hrd hc hr hjr hbs
      have hltz : (j : Int) < n := by omega
      go_wp2_with fail
      refine (held_any _ _ _ _ _ (by omega) (by omega) (by omega) HRD.out).mono ?_
      rintro e w2 ⟨rfl, hq2⟩
      have HQ2 := hide hq2
      clear hq2
      have hnn : ¬ (k + (s : Int) + (m : Int) < 0) := by omega
      go_wp2_with fail
      go_roundw
      case rel => exact ⟨j + 1, by omega, by go_num, by rw [HTJ.out, HS.out, HMM.out]; go_num, HQ.out.trans HQ2.out⟩
      case measure => simp [intOf]; omega
    · have hjn : j = n := by omega
      subst hjn
      go_wp2_with fail
      go_ret
      exact ⟨by rw [List.take_of_length_le (by have := HN.out; omega)]; rfl, HQ.out⟩
end Go.Proofs.Ytkagfjofjbpfeaa
