import Derived.Test.YtaejgmdeiemhcaaZc
import Derived.Deep.OwnRows
import Derived.Test.YtaejgmdeiemhcaaProg
import Derived.Test.YtaejgmdeiemhcaaZb
import Derived.Test.YtaejgmdeiemhcaaZd
namespace Go.Proofs.Ytaejgmdeiemhcaa
open Go Go.RowKit
/-- k rows are laid, each in new memory of its own, into a row of headers of n places. -/
def ClnRel (ts t : TypeId) (w wr : World) (g n k : Nat) (rows : List (List Int)) : Prop :=
  Below w.heap.size w wr ∧ ∃ (R : Nat → Option Addr) (C b : Nat → Nat), wr.rowIs g ts n (fun i => if i < k then .slice (R i) (rows.getD i []).length (C i) else .slice none 0 0) ∧
    (∀ i, i < k → Obj1 t (b i) (b (i + 1)) wr (R i) (rows.getD i [])) ∧ (∀ i, i < k → b i ≤ b (i + 1)) ∧ g < b 0 ∧ b k ≤ wr.heap.size
section
variable {ts t : TypeId} {w wr : World} {g n k : Nat} {rows : List (List Int)}
theorem ClnRel.start (w : World) (ts t : TypeId) (n : Nat) (rows : List (List Int)) (w0 : World) (hb : Below w.heap.size w w0) : ClnRel ts t w (w0.alloc (.cells (madeCells #[.slice none 0 0] n) ts)) w0.heap.size n 0 rows :=
  ⟨hb.alloc hb.size _, fun _ => none, fun _ => 0, fun _ => w0.heap.size + 1, (World.rowIs_made w0 _ n _).congr (fun j _ => by simp), fun i hi => absurd hi (Nat.not_lt_zero _), fun i hi => absurd hi (Nat.not_lt_zero _), by simp, by simp⟩
theorem mono_leC {b : Nat → Nat} (h : ∀ i, i < k → b i ≤ b (i + 1)) : ∀ i j, i ≤ j → j ≤ k → b i ≤ b j := by
  intro i j hij hj
  induction j with
  | zero => have : i = 0 := by omega
            subst this; exact Nat.le_refl _
  | succ j ih =>
    by_cases e : i = j + 1
    · subst e; exact Nat.le_refl _
    · exact Nat.le_trans (ih (by omega) (by omega)) (h j (by omega))
theorem ClnRel.step {w2 : World} {A : Option Addr} {c l : Nat} {r : List Int} (h : ClnRel ts t w wr g n k rows) (hg : w.heap.size ≤ g) (hb : Below wr.heap.size wr w2) (hr : r = rows.getD k []) (hl : l = r.length) (hA : Res t wr.heap.size w2 A r) :
    ClnRel ts t w (w2.setCell ⟨g, k, none⟩ (.slice A l c)) g n (k + 1) rows := by
  obtain ⟨hbw, R, C, b, htop, hrow, hmon, hg0, hend⟩ := h
  have hgl : g < wr.heap.size := htop.lt
  have hB2 : Below w.heap.size w w2 := hbw.trans (hb.mono hbw.size)
  refine ⟨hB2.setCell hg _, fun i => if i = k then A else R i, fun i => if i = k then c else C i, fun i => if i ≤ k then (if i = k then wr.heap.size else b i) else w2.heap.size, ?_, fun i hi => ?_, fun i hi => ?_, ?_, ?_⟩
  · refine ((htop.of_block (hb.block g hgl)).set k _).congr (fun j _ => ?_)
    by_cases e : j = k
    · subst e
      rw [if_pos rfl, if_pos (by omega)]
      simp [hl, hr]
    · rw [if_neg e]
      by_cases hlt : j < k
      · rw [if_pos hlt, if_pos (by omega)]
        simp [e]
      · rw [if_neg hlt, if_neg (by omega)]
  · by_cases e : i = k
    · subst e
      show Obj1 t (if i ≤ i then (if i = i then wr.heap.size else b i) else w2.heap.size) (if i + 1 ≤ i then _ else w2.heap.size) _ (if i = i then A else R i) _
      rw [if_pos (Nat.le_refl _), if_pos rfl, if_neg (by omega), if_pos rfl, ← hr]
      rcases hA with h0 | ⟨g', e1, e2, e3⟩
      · exact .inl h0
      · exact .inr ⟨g', e1, e2, e3.lt, e3.far (by show g' ≠ g; omega) _⟩
    · have hlt : i < k := by omega
      have ho := hrow i hlt
      show Obj1 t (if i ≤ k then (if i = k then wr.heap.size else b i) else w2.heap.size) (if i + 1 ≤ k then (if i + 1 = k then wr.heap.size else b (i + 1)) else w2.heap.size) _ (if i = k then A else R i) _
      rw [if_pos (by omega), if_neg e, if_pos (by omega), if_neg e]
      have hle : b (i + 1) ≤ b k := mono_leC hmon (i + 1) k (by omega) (Nat.le_refl _)
      have h0 : b 0 ≤ b i := mono_leC hmon 0 i (by omega) (by omega)
      have key : Obj1 t (b i) (b (i + 1)) (w2.setCell ⟨g, k, none⟩ (.slice A l c)) (R i) (rows.getD i []) := by
        rcases ho with hn | ⟨g', e1, e2, e3, e4⟩
        · exact .inl hn
        · exact .inr ⟨g', e1, e2, e3, (e4.later hb (by omega)).far (by show g' ≠ g; omega) _⟩
      by_cases e2 : i + 1 = k
      · rw [if_pos e2]
        exact key.mono (Nat.le_refl _) (by rw [e2]; exact hend)
      · rw [if_neg e2]
        exact key
  · show (if i ≤ k then (if i = k then wr.heap.size else b i) else w2.heap.size) ≤ (if i + 1 ≤ k then (if i + 1 = k then wr.heap.size else b (i + 1)) else w2.heap.size)
    have h1 := hb.size
    by_cases e : i = k
    · subst e
      rw [if_pos (Nat.le_refl _), if_pos rfl, if_neg (by omega)]
      exact h1
    · have hle : b (i + 1) ≤ b k := mono_leC hmon (i + 1) k (by omega) (Nat.le_refl _)
      have := hmon i (by omega)
      rw [if_pos (by omega), if_neg e, if_pos (by omega)]
      by_cases e2 : i + 1 = k
      · rw [if_pos e2]; omega
      · rw [if_neg e2]; exact this
  · show g < (if 0 ≤ k then (if 0 = k then wr.heap.size else b 0) else w2.heap.size)
    rw [if_pos (Nat.zero_le _)]
    by_cases e : 0 = k
    · rw [if_pos e]; exact hgl
    · rw [if_neg e]; exact hg0
  · show (if k + 1 ≤ k then _ else w2.heap.size) ≤ _
    rw [if_neg (by omega)]
    simp [World.setCell]
theorem ClnRel.cell (h : ClnRel ts t w wr g n k rows) (hk : k < n) : wr.cell? ⟨g, k, none⟩ = some (.slice none 0 0) := by
  obtain ⟨_, R, C, b, htop, _⟩ := h
  rw [htop.cell hk, if_neg (Nat.lt_irrefl _)]
theorem ClnRel.frozen (h : ClnRel ts t w wr g n k rows) (i : Nat) : wr.frozen? ⟨g, i, none⟩ = false := by
  obtain ⟨_, R, C, b, htop, _⟩ := h
  exact htop.frozen i
theorem ClnRel.lt (h : ClnRel ts t w wr g n k rows) : g < wr.heap.size := by
  obtain ⟨_, R, C, b, htop, _⟩ := h
  exact htop.lt
theorem ClnRel.obj (h : ClnRel ts t w wr g n n rows) (hg : w.heap.size ≤ g) (hn : rows.length = n) : Obj2 ts t w.heap.size wr.heap.size wr (some ⟨g, 0, none⟩) rows := by
  obtain ⟨hbw, R, C, b, ⟨cur, hc1, _, hc2⟩, hrow, hmon, hg0, hend⟩ := h
  have hgl : g < wr.heap.size := (Array.getElem?_eq_some_iff.1 hc1).1
  refine .inr ⟨g, R, C, rfl, hg, hgl, ⟨cur, hc1, fun i hi => ?_⟩, fun i hi => ?_, fun i j hi hj hne a c ha hc => ?_⟩
  · rw [hc2 i (by omega)]
    have : i < n := by omega
    simp [this]
  · have h0 : b 0 ≤ b i := mono_leC hmon 0 i (by omega) (by omega)
    have h1 : b (i + 1) ≤ b n := mono_leC hmon (i + 1) n (by omega) (Nat.le_refl _)
    exact (hrow i (by omega)).mono (by omega) (by omega)
  · have h1 := (hrow i (by omega)).bounds a ha
    have h2 := (hrow j (by omega)).bounds c hc
    rcases Nat.lt_or_gt_of_ne hne with hlt | hlt
    · have := mono_leC hmon (i + 1) j (by omega) (by omega)
      omega
    · have := mono_leC hmon (j + 1) i (by omega) (by omega)
      omega
end
end Go.Proofs.Ytaejgmdeiemhcaa
namespace Go.Proofs.Ytaejgmdeiemhcaa
open Go Go.RowKit
set_option maxHeartbeats 1000000

theorem own_shape_cap {t : TypeId} {w : World} {xs : List Int} {B n : Nat} {v : Value} (h : w.ownsRow B t 1 v n (ints xs)) : ∃ A c, v = .slice A n c ∧ n ≤ c ∧ Res t B w A xs := by
  obtain ⟨A, c, hv, hr⟩ := own_shape h
  refine ⟨A, c, hv, ?_, hr⟩
  rcases h.2 with ⟨h1, h2⟩ | ⟨g, cap, cur, h1, _, _, h2, _⟩
  · omega
  · rw [hv] at h1
    injection h1 with e1 e2 e3
    omega

set_option maxRecDepth 100000 in
theorem cloneN_any (A : Option Addr) (n c : Nat) (xs : List Int) (w : World) (hn : xs.length = n) (hbn : n ≤ 1048576) (hr : Rd w A xs) :
    Calls Try.prog 86 #[.slice A n c] w fun e w' => ∃ A' c', e = .returned (.slice A' n c') ∧ Below w.heap.size w w' ∧ Res 2 w.heap.size w' A' xs ∧ n ≤ c' := by
  have he : ∀ (u : World) (a : Option Addr) (n c : Nat), (binOp .eql 37 (.slice a n c) (.slice none 0 0)).run Try.prog u = .ok (.bool a.isNone) u := fun u a n c => Lib.run_eql_slice_nil u 37 _ a n c 0 0 Try.underlying37
  cases A with
  | none =>
    have h0 : xs = [] := by
      cases xs with
      | nil => rfl
      | cons x xs => obtain ⟨b, o, h, _⟩ := hr (by simp); cases h
    subst h0
    have hn0 : n = 0 := by rw [← hn]; rfl
    subst hn0
    clear hr hn
    go_enter Try.func86, Try.ntmps86
    go_wp2_with fail
    go_ret
    exact ⟨_, _, rfl, Below.refl _ _, .inl ⟨rfl, rfl⟩, Nat.le_refl _⟩
  | some a =>
    have HN := hide hn
    have hcc : ∀ j u, (ints xs)[j]? = some u → (w.alloc (.cells #[] 2)).cell? (a.add j) = some u := by
      intro j u hj
      have hl : j < xs.length := by
        have := (List.getElem?_eq_some_iff.1 hj).1
        rw [ints_length] at this
        exact this
      obtain ⟨b, o, h, hb, hc⟩ := hr (by omega)
      injection h with h
      subst h
      exact cl_cells hc hb j u hj
    have HC := hide hcc
    clear hn hcc hr
    obtain ⟨i0, hi, hz0, hz1, hz2⟩ := info_parts clInfo
    go_enter Try.func86, Try.ntmps86
    go_wp2_with (at_builtin; refine wpList_append_own _ rfl _ _ 37 rfl w.heap.size 2 i0 (.int .i64 0) 1 8 Try.underlying37 hi hz0 hz1 hz2 rfl (by decide) _ _ _ rfl (cl_empty w 2) a n c (ints xs) rfl ?c1 HC.out ?c2 ?c3 ?c4 ?c5 ?_)
    case c1 => rw [ints_length]; have := HN.out; omega
    case c2 => intro u hu; simp [ints] at hu; obtain ⟨_, _, rfl⟩ := hu; rfl
    case c3 => unfold maxLen; omega
    case c4 => omega
    case c5 => simp
    intro v' w1 hown' hgrow _
    have HO' := hide hown'
    have HG := hide hgrow
    clear hown' hgrow
    go_wp2_with fail
    go_ret
    have h := HO'.out
    have hB : Below w.heap.size w w1 := ((Below.refl _ _).alloc (Nat.le_refl _) _).grown HG.out (by simp) (fun g hg => ((cl_empty w 2).lt g hg).1)
    obtain ⟨A', c', hv, hcap, hres⟩ := own_shape_cap h
    exact ⟨A', c', by rw [← hv]; rfl, hB, hres, hcap⟩
end Go.Proofs.Ytaejgmdeiemhcaa
namespace Go.Proofs.Ytaejgmdeiemhcaa
open Go Go.RowKit
set_option maxHeartbeats 1000000

theorem own_any (b o : Nat) (n c : Nat) (xs : List Int) (w : World) (hn : xs.length = n) (hbn : n ≤ 1048576) (hb : b < w.heap.size) (hc : ∀ i, i < xs.length → w.cell? ⟨b, o + i, none⟩ = some (.int .i64 (xs.getD i 0))) :
    Calls Try.prog 84 #[.slice (some ⟨b, o, none⟩) n c] w fun e w' => ∃ v, e = .returned v ∧ Below w.heap.size w w' ∧ w'.ownsRow w.heap.size 2 1 v n (ints xs) := by
  have HN := hide hn
  have hcc := cl_cells (obj := .cells #[] 2) hc hb
  have HC := hide hcc
  clear hn hc hcc
  obtain ⟨i0, hi, hz0, hz1, hz2⟩ := info_parts clInfo
  go_enter Try.func84, Try.ntmps84
  go_wp2_with (at_builtin; refine wpList_append_own _ rfl _ _ 37 rfl w.heap.size 2 i0 (.int .i64 0) 1 8 Try.underlying37 hi hz0 hz1 hz2 rfl (by decide) _ _ _ rfl (cl_empty w 2) ⟨b, o, none⟩ n c (ints xs) rfl ?c1 HC.out ?c2 ?c3 ?c4 ?c5 ?_)
  case c1 => rw [ints_length]; have := HN.out; omega
  case c2 => intro u hu; simp [ints] at hu; obtain ⟨_, _, rfl⟩ := hu; rfl
  case c3 => unfold maxLen; omega
  case c4 => omega
  case c5 => simp
  intro v' w1 hown' hgrow _
  have HO' := hide hown'
  have HG := hide hgrow
  clear hown' hgrow
  go_wp2_with fail
  go_ret
  have h := HO'.out
  have hB : Below w.heap.size w w1 := ((Below.refl _ _).alloc (Nat.le_refl _) _).grown HG.out (by simp) (fun g hg => ((cl_empty w 2).lt g hg).1)
  exact ⟨v', rfl, hB, h⟩
end Go.Proofs.Ytaejgmdeiemhcaa
namespace Go.Proofs.Ytaejgmdeiemhcaa
open Go Go.RowKit
set_option maxHeartbeats 1000000

theorem same_any (A B : Option Addr) (n c m d : Nat) (xs ys : List Int) (r : Bool) (w : World) (hn : xs.length = n) (hm : ys.length = m) (hb : n ≤ 9223372036854775807) (hb2 : m ≤ 9223372036854775807) (hx : Rd w A xs) (hy : Rd w B ys) (hr : r = true ↔ xs = ys) :
    Calls Try.prog 72 #[.slice A n c, .slice B m d] w fun e w' => e = .returned (.bool r) ∧ Quiet w w' := by
  have HN := hide hn
  have HM := hide hm
  have HR := hide hr
  clear hr
  by_cases hnm : n = m
  · subst hnm
    clear hn hm
    go_enter Try.func72, Try.ntmps72
    go_wp2_with fail
    go_loopw [5] (fun i wr => ∃ k : Nat, k ≤ n ∧ i = .int .i64 k ∧ Quiet w wr ∧ ∀ i, i < k → xs.getD i 0 = ys.getD i 0) (fun i _ => n - (intOf i).toNat)
    case atStart => exact ⟨0, Nat.zero_le _, rfl, Quiet.refl w, fun i hi => absurd hi (Nat.not_lt_zero _)⟩
    case round =>
      obtain ⟨k, hk, rfl, hq, hall⟩ := hrel
      have HQ := hide hq
      clear hq
      have HALL := hide hall
      clear hall
      by_cases hlt : k < n
      · obtain ⟨b, o, rfl, _, hc⟩ := HQ.out.rd hx (by have := HN.out; omega)
        obtain ⟨b2, o2, rfl, _, hc2⟩ := HQ.out.rd hy (by have := HM.out; omega)
        have h1 := hc k (by have := HN.out; omega)
        have h2 := hc2 k (by have := HM.out; omega)
        obtain ⟨x, hx⟩ : ∃ x, x = xs.getD k 0 := ⟨_, rfl⟩
        obtain ⟨y, hy⟩ : ∃ y, y = ys.getD k 0 := ⟨_, rfl⟩
        rw [← hx] at h1
        rw [← hy] at h2
        have HX := hide hx
        have HY := hide hy
        clear hx hy hc hc2
        have hltz : (k : Int) < n := by omega
        by_cases hxy : x = y
        · subst hxy
          go_wp2_with fail
          go_quiet (fail)
          go_wp2_with fail
          go_roundw
          case rel =>
            refine ⟨k + 1, by omega, by go_num, HQ.out.drewN _, fun i hi => ?_⟩
            by_cases e : i = k
            · subst e; rw [← HX.out]; exact HY.out
            · exact HALL.out i (by omega)
          case measure => simp [intOf]; omega
        · have hne : (x != y) = true := by simpa using hxy
          have HNE := hide hxy
          clear hxy
          go_wp2_with fail
          go_quiet (fail)
          go_wp2_with fail
          go_ret
          have : r = false := by
            cases r
            · rfl
            · have e := HR.out.1 rfl
              subst e
              exact absurd (HX.out.trans HY.out.symm) HNE.out
          exact ⟨by subst this; rfl, by first | exact HQ.out | exact HQ.out.drewN _ | exact Quiet.refl _⟩
      · have hkn : k = n := by omega
        subst hkn
        go_wp2_with fail
        go_ret
        have this := HR.out.2 (eqList xs ys (HN.out.trans HM.out.symm) (fun i hi => HALL.out i (by have := HN.out; omega)))
        exact ⟨by subst this; rfl, by first | exact HQ.out | exact HQ.out.drewN _ | exact Quiet.refl _⟩
  · have hne : ((n : Int) != (m : Int)) = true := by simp; omega
    have HNM := hide hnm
    clear hn hm hnm
    go_enter Try.func72, Try.ntmps72
    go_wp2_with fail
    go_ret
    have : r = false := by
      cases r
      · rfl
      · have e := HR.out.1 rfl
        subst e
        exact absurd (HN.out.symm.trans HM.out) HNM.out
    exact ⟨by subst this; rfl, by first | exact HQ.out | exact HQ.out.drewN _ | exact Quiet.refl _⟩

theorem less_any (A B : Option Addr) (n c d : Nat) (xs ys : List Int) (w : World) (hn : xs.length = n) (hm : ys.length = n) (hb : n ≤ 1048576) (hx : Rd w A xs) (hy : Rd w B ys) :
    Calls Try.prog 116 #[.slice A n c, .slice B n d] w fun e w' => e = .returned (.bool (lessL xs ys)) ∧ Quiet w w' := by
  have HN := hide hn
  have HM := hide hm
  clear hn hm
  go_enter Try.func116, Try.ntmps116
  go_wp2_with fail
  go_loopw [5] (fun i wr => ∃ k : Nat, k ≤ n ∧ i = .int .i64 k ∧ Quiet w wr ∧ lessL xs ys = lessL (xs.drop k) (ys.drop k)) (fun i _ => n - (intOf i).toNat)
  case atStart => exact ⟨0, Nat.zero_le _, rfl, Quiet.refl w, rfl⟩
  case round =>
    obtain ⟨k, hk, rfl, hq, hall⟩ := hrel
    have HQ := hide hq
    have HALL := hide hall
    clear hq hall
    by_cases hlt : k < n
    · obtain ⟨b, o, rfl, _, hc⟩ := HQ.out.rd hx (by have := HN.out; omega)
      obtain ⟨b2, o2, rfl, _, hc2⟩ := HQ.out.rd hy (by have := HM.out; omega)
      have h1 := hc k (by have := HN.out; omega)
      have h2 := hc2 k (by have := HM.out; omega)
      have e1 := drop_cons xs k (by have := HN.out; omega)
      have e2 := drop_cons ys k (by have := HM.out; omega)
      obtain ⟨x, hx⟩ : ∃ x, xs.getD k 0 = x := ⟨_, rfl⟩
      obtain ⟨y, hy⟩ : ∃ y, ys.getD k 0 = y := ⟨_, rfl⟩
      rw [hx] at h1 e1
      rw [hy] at h2 e2
      have E1 := hide e1
      have E2 := hide e2
      clear hx hy hc hc2 e1 e2
      have hltz : (k : Int) < n := by omega
      by_cases hxy : x = y
      · subst hxy
        go_wp2_with fail
        go_quiet (fail)
        go_wp2_with fail
        go_roundw
        case rel =>
          refine ⟨k + 1, by omega, by go_num, HQ.out.drewN _, ?_⟩
          rw [HALL.out, E1.out, E2.out, lessL, if_pos rfl]
        case measure => simp [intOf]; omega
      · have hne : (x != y) = true := by simpa using hxy
        have HNE := hide hxy
        clear hxy
        have hres : lessL xs ys = decide (x < y) := by
          rw [HALL.out, E1.out, E2.out, lessL, if_neg HNE.out]
        have HRES := hide hres
        clear hres
        go_wp2_with fail
        go_quiet (fail)
        go_wp2_with fail
        go_quiet (fail)
        go_wp2_with fail
        go_ret
        exact ⟨by rw [HRES.out]; rfl, (HQ.out.drewN _).drewN _⟩
    · have hkn : k = n := by omega
      subst hkn
      go_wp2_with fail
      go_ret
      have h := HALL.out
      rw [List.drop_of_length_le (by have := HN.out; omega), List.drop_of_length_le (by have := HM.out; omega)] at h
      exact ⟨by rw [h]; simp [lessL], HQ.out⟩
end Go.Proofs.Ytaejgmdeiemhcaa
namespace Go.Proofs.Ytaejgmdeiemhcaa
open Go Go.RowKit
set_option maxHeartbeats 1000000

theorem rowsS_any (A : Option Addr) (n c : Nat) (rows : List (List Int)) (r : Bool) (w : World) (hn : rows.length = n) (hb : n ≤ 1048576) (hbs : ∀ i, i < rows.length → (rows.getD i []).length ≤ 1048576) (hr : Rd2 w A rows) (hrr : r = true ↔ ∀ i, i < rows.length → Prm (rows.getD i [])) :
    Calls Try.prog 114 #[.slice A n c] w fun e w' => e = .returned (.bool r) ∧ Below w.heap.size w w' := by
  have HN := hide hn
  have HR := hide hrr
  clear hn hrr
  go_enter Try.func114, Try.ntmps114
  go_wp2_with fail
  skip
  go_loopw [3] (fun i wr => ∃ k : Nat, k ≤ n ∧ i = .int .i64 k ∧ Below w.heap.size w wr ∧ ∀ i, i < k → Prm (rows.getD i [])) (fun i _ => n - (intOf i).toNat)
  case atStart => exact ⟨0, Nat.zero_le _, rfl, Below.refl _ _, fun i hi => absurd hi (Nat.not_lt_zero _)⟩
  case round =>
    obtain ⟨k, hk, rfl, hbe, hall⟩ := hrel
    have HB := hide hbe
    have HALL := hide hall
    clear hbe hall
    by_cases hlt : k < n
    · obtain ⟨b, o, rfl, _, hc⟩ := (hr.later HB.out) (by have := HN.out; omega)
      obtain ⟨Ak, ck, hcell, hrd⟩ := hc k (by have := HN.out; omega)
      have hbk := hbs k (by have := HN.out; omega)
      obtain ⟨x, hx⟩ : ∃ x, x = rows.getD k [] := ⟨_, rfl⟩
      obtain ⟨m, hm⟩ : ∃ m, x.length = m := ⟨_, rfl⟩
      rw [← hx] at hcell hrd hbk
      rw [hm] at hcell hbk
      have HX := hide hx
      have HM := hide hm
      clear hx hm hc hbs
      have hltz : (k : Int) < n := by omega
      by_cases hp : Prm x
      · have HP := hide hp
        clear hp
        go_wp2_with fail
        refine (prmS_below _ _ _ x true _ HM.out (by omega) hrd (by simp [HP.out])).mono ?_
        rintro e w1 ⟨rfl, hq1⟩
        have HQ1 := hide hq1
        clear hq1
        go_wp2_with fail
        go_roundw
        case rel =>
          refine ⟨k + 1, by omega, by go_num, HB.out.trans (HQ1.out.mono HB.out.size), fun i hi => ?_⟩
          by_cases e : i = k
          · subst e; rw [← HX.out]; exact HP.out
          · exact HALL.out i (by omega)
        case measure => simp [intOf]; omega
      · have HP := hide hp
        clear hp
        go_wp2_with fail
        refine (prmS_below _ _ _ x false _ HM.out (by omega) hrd (by simp [HP.out])).mono ?_
        rintro e w1 ⟨rfl, hq1⟩
        have HQ1 := hide hq1
        clear hq1
        go_wp2_with fail
        go_ret
        have : r = false := by
          cases r
          · rfl
          · have h := HR.out.1 rfl k (by have := HN.out; omega)
            rw [← HX.out] at h
            exact absurd h HP.out
        exact ⟨by subst this; rfl, HB.out.trans (HQ1.out.mono HB.out.size)⟩
    · have hkn : k = n := by omega
      subst hkn
      go_wp2_with fail
      go_ret
      have : r = true := HR.out.2 fun i hi => HALL.out i (by have := HN.out; omega)
      exact ⟨by subst this; rfl, HB.out⟩
end Go.Proofs.Ytaejgmdeiemhcaa
