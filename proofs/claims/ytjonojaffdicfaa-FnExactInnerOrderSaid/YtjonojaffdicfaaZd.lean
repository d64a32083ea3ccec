import Derived.Test.YtjonojaffdicfaaZb
import Derived.Test.YtjonojaffdicfaaProg
import Derived.Laws.BytesArg
namespace Go.Proofs.Ytjonojaffdicfaa
open Go Go.RowKit
set_option maxHeartbeats 400000

theorem l01Table_any (A : Option Addr) (n c : Nat) (rows : List (List Int)) (r : Bool) (w : World) (hn : rows.length = n) (hb : n ≤ 9223372036854775807) (hbs : ∀ i, i < rows.length → (rows.getD i []).length ≤ 9223372036854775807) (hr : Rd2 w A rows) (hrr : r = true ↔ Tbl rows) :
    Calls Try.prog 45 #[.slice A n c] w fun e w' => e = .returned (.bool r) ∧ Quiet w w' := by
  have HN := hide hn
  have HR := hide hrr
  clear hn hrr
  by_cases h12 : 1 ≤ n ∧ n ≤ 12
  · obtain ⟨h1, h2⟩ := h12
    have hno : ¬ Tbl rows → r = false := fun h => by
      cases r
      · rfl
      · exact absurd (HR.out.1 rfl) h
    have HNO := hide hno
    clear hno
    go_enter Try.func45, Try.ntmps45
    go_wp2_with (go_at_call 32; refine (in_any _ _ _ true _ (by simp; omega)).mono ?_; rintro e w1 ⟨rfl, hq1⟩)
    have HQ1 := hide hq1
    clear hq1
    go_loopw [4] (fun i wr => ∃ k : Nat, k ≤ n ∧ i = .int .i64 k ∧ Quiet w wr ∧ ∀ i, i < k → RowOk n (rows.getD i [])) (fun i _ => n - (intOf i).toNat)
    case atStart => exact ⟨0, Nat.zero_le _, rfl, HQ1.out, fun i hi => absurd hi (Nat.not_lt_zero _)⟩
    case round =>
      obtain ⟨k, hk, rfl, hq, hall⟩ := hrel
      have HQ := hide hq
      have HALL := hide hall
      clear hq hall
      by_cases hlt : k < n
      · obtain ⟨b, o, rfl, _, hc⟩ := HQ.out.rd2 hr (by have := HN.out; omega)
        obtain ⟨Ak, ck, hcell, hrd⟩ := hc k (by have := HN.out; omega)
        have hbk := hbs k (by have := HN.out; omega)
        obtain ⟨x, hx⟩ : ∃ x, x = rows.getD k [] := ⟨_, rfl⟩
        obtain ⟨m, hm⟩ : ∃ m, x.length = m := ⟨_, rfl⟩
        rw [← hx] at hcell hrd hbk
        rw [hm] at hcell hbk
        have HX := hide hx
        have HM := hide hm
        clear hx hm hc hbs
        have hltz : (k : Int) < n := by omega
        by_cases hmn : m = n
        · subst hmn
          go_wp2_with fail
          obtain ⟨wo, rfl⟩ : ∃ wo : World, wo = wr := ⟨_, rfl⟩
          go_loopw [5] (fun i wi => ∃ j : Nat, j ≤ m ∧ i = .int .i64 j ∧ Quiet wo wi ∧ ∀ i, i < j → 0 ≤ x.getD i 0 ∧ x.getD i 0 < (m : Int)) (fun i _ => m - (intOf i).toNat)
          case atStart => exact ⟨0, Nat.zero_le _, rfl, Quiet.refl _, fun i hi => absurd hi (Nat.not_lt_zero _)⟩
          case round =>
            obtain ⟨j, hj, rfl, hqi, hin⟩ := hrel
            have HIN := hide hin
            have HQI := hide hqi
            clear hin
            by_cases hjm : j < m
            · obtain ⟨b2, o2, rfl, _, hc2⟩ := hqi.rd hrd (by have := HM.out; omega)
              have hcell2 := (hqi.cell ⟨b, o + k, none⟩).trans hcell
              have hv := hc2 j (by have := HM.out; omega)
              obtain ⟨y, hy⟩ : ∃ y, y = x.getD j 0 := ⟨_, rfl⟩
              rw [← hy] at hv
              have HY := hide hy
              clear hy hc2 hqi hcell
              have hjz : (j : Int) < m := by omega
              by_cases hyr : 0 ≤ y ∧ y ≤ (m : Int) - 1
              · have HYR := hide hyr
                clear hyr
                go_wp2_with (go_at_call 32; refine (in_any _ _ _ true _ (by simp [HYR.out.1, HYR.out.2])).mono ?_; rintro e w1 ⟨rfl, hq1⟩)
                go_roundw
                case rel =>
                  refine ⟨j + 1, by omega, by go_num, HQI.out.trans hq1, fun i hi => ?_⟩
                  by_cases e : i = j
                  · subst e; rw [← HY.out]; have := HYR.out; exact ⟨this.1, by omega⟩
                  · exact HIN.out i (by omega)
                case measure => simp [intOf]; omega
              · have HYR := hide hyr
                clear hyr
                go_wp2_with (go_at_call 32; refine (in_any _ _ _ false _ (by simpa using HYR.out)).mono ?_; rintro e w1 ⟨rfl, hq1⟩)
                go_ret
                have : r = false := HNO.out fun h => HYR.out (by
                  have h := (h.2.2 k (by have := HN.out; omega)).2 j (by have := HN.out; omega)
                  rw [← HX.out, ← HY.out, HN.out] at h
                  exact ⟨h.1, by omega⟩)
                exact ⟨by subst this; rfl, HQ.out.trans (HQI.out.trans hq1)⟩
            · have hjm' : j = m := by omega
              subst hjm'
              go_wp2_with fail
              go_roundw
              case rel => 
                refine ⟨k + 1, by omega, by go_num, HQ.out.trans HQI.out, fun i hi => ?_⟩
                by_cases e : i = k
                · subst e; rw [← HX.out]; exact ⟨HM.out, HIN.out⟩
                · exact HALL.out i (by omega)
              case measure => simp [intOf]; omega
        · have hne : ((m : Int) != (n : Int)) = true := by simp; omega
          have HMN := hide hmn
          clear hmn
          go_wp2_with fail
          go_ret
          have : r = false := HNO.out fun h => HMN.out (by
            have h := (h.2.2 k (by have := HN.out; omega)).1
            rw [← HX.out, HM.out, HN.out] at h
            exact h)
          exact ⟨by subst this; rfl, by first | exact HQ.out | exact HQ.out.drewN _⟩
      · have hkn : k = n := by omega
        subst hkn
        go_wp2_with fail
        go_ret
        have : r = true := HR.out.2 ⟨by have := HN.out; omega, by have := HN.out; omega, fun i hi => by
          have h := HALL.out i (by have := HN.out; omega)
          rw [HN.out]
          exact h⟩
        exact ⟨by subst this; rfl, HQ.out⟩
  · have : r = false := by
      cases r
      · rfl
      · have := HR.out.1 rfl
        have h := HN.out
        unfold Tbl at this
        omega
    subst this
    go_enter Try.func45, Try.ntmps45
    go_wp2_with (go_at_call 32; refine (in_any _ _ _ false _ (by simp; omega)).mono ?_; rintro e w1 ⟨rfl, hq1⟩)
    go_ret
    exact ⟨rfl, hq1⟩

end Go.Proofs.Ytjonojaffdicfaa
namespace Go.Proofs.Ytjonojaffdicfaa
open Go Go.RowKit
set_option maxHeartbeats 400000

theorem l01Perm_any (A : Option Addr) (n c : Nat) (xs : List Int) (r : Bool) (w : World) (hn : xs.length = n) (hb : n ≤ 9223372036854775807) (hr : Rd w A xs) (hrr : r = true ↔ 1 ≤ n ∧ n ≤ 12 ∧ ∀ x : Int, 0 ≤ x → x < (n : Int) → x ∈ xs) :
    Calls Try.prog 33 #[.slice A n c] w fun e w' => e = .returned (.bool r) ∧ Quiet w w' := by
  have HN := hide hn
  have HR := hide hrr
  clear hn hrr
  by_cases h12 : 1 ≤ n ∧ n ≤ 12
  · obtain ⟨h1, h2⟩ := h12
    go_enter Try.func33, Try.ntmps33
    go_wp2_with (go_at_call 32; refine (in_any _ _ _ true _ (by simp; omega)).mono ?_; rintro e w1 ⟨rfl, hq1⟩)
    have HQ1 := hide hq1
    clear hq1
    go_loopw [4] (fun i wr => ∃ k : Nat, k ≤ n ∧ i = .int .i64 k ∧ Quiet w wr ∧ ∀ x : Int, 0 ≤ x → x < (k : Int) → x ∈ xs) (fun i _ => n - (intOf i).toNat)
    case atStart => exact ⟨0, Nat.zero_le _, rfl, HQ1.out, fun x h0 h1 => by omega⟩
    case round =>
      obtain ⟨k, hk, rfl, hq, hall⟩ := hrel
      have HQ := hide hq
      have HALL := hide hall
      clear hq hall
      by_cases hlt : k < n
      · have hltz : (k : Int) < n := by omega
        by_cases hm : (k : Int) ∈ xs
        · have HM := hide hm
          clear hm
          go_wp2_with (go_at_call 51; refine (has_any _ _ _ xs _ true _ HN.out hb (HQ.out.rd hr) (by simp [HM.out])).mono ?_; rintro e w2 ⟨rfl, hq2⟩)
          have HQ2 := hide hq2
          clear hq2
          go_roundw
          case rel =>
            refine ⟨k + 1, by omega, by go_num, HQ.out.trans HQ2.out, fun x h0 h1 => ?_⟩
            by_cases e : x = (k : Int)
            · subst e; exact HM.out
            · exact HALL.out x h0 (by omega)
          case measure => simp [intOf]; omega
        · have HM := hide hm
          clear hm
          go_wp2_with (go_at_call 51; refine (has_any _ _ _ xs _ false _ HN.out hb (HQ.out.rd hr) (by simp [HM.out])).mono ?_; rintro e w2 ⟨rfl, hq2⟩)
          go_ret
          have : r = false := by
            cases r
            · rfl
            · exact absurd ((HR.out.1 rfl).2.2 k (by omega) (by omega)) HM.out
          exact ⟨by subst this; rfl, HQ.out.trans hq2⟩
      · have hkn : k = n := by omega
        subst hkn
        go_wp2_with fail
        go_ret
        have : r = true := HR.out.2 ⟨h1, h2, HALL.out⟩
        exact ⟨by subst this; rfl, HQ.out⟩
  · have : r = false := by
      cases r
      · rfl
      · have := HR.out.1 rfl
        omega
    subst this
    go_enter Try.func33, Try.ntmps33
    go_wp2_with (go_at_call 32; refine (in_any _ _ _ false _ (by simp; omega)).mono ?_; rintro e w1 ⟨rfl, hq1⟩)
    go_ret
    exact ⟨rfl, hq1⟩

theorem prmS_any (A : Option Addr) (n c : Nat) (xs : List Int) (r : Bool) (w : World) (hn : xs.length = n) (hb : n ≤ 9223372036854775807) (hr : Rd w A xs) (hrr : r = true ↔ Prm xs) :
    Calls Try.prog 33 #[.slice A n c] w fun e w' => e = .returned (.bool r) ∧ Quiet w w' :=
  l01Perm_any A n c xs r w hn hb hr (by rw [hrr, prm_iff, hn])
theorem prmS_below (A : Option Addr) (n c : Nat) (xs : List Int) (r : Bool) (w : World) (hn : xs.length = n) (hb : n ≤ 9223372036854775807) (hr : Rd w A xs) (hrr : r = true ↔ Prm xs) :
    Calls Try.prog 33 #[.slice A n c] w fun e w' => e = .returned (.bool r) ∧ Below w.heap.size w w' :=
  (prmS_any A n c xs r w hn hb hr hrr).mono fun _ _ ⟨he, hq⟩ => ⟨he, hq.below _⟩
end Go.Proofs.Ytjonojaffdicfaa
namespace Go.Proofs.Ytjonojaffdicfaa
open Go Go.RowKit
set_option maxHeartbeats 1000000

/-- Doing p, then q. -/
def thenL (p q : List Int) : List Int := p.map fun y => q.getD y.toNat 0
theorem thenL_length (p q : List Int) : (thenL p q).length = p.length := by simp [thenL]

theorem thenL_getD (p q : List Int) (k j : Nat) (h : k < p.length) (hj : p.getD k 0 = (j : Int)) : (thenL p q).getD k 0 = q.getD j 0 := by
  have h1 : p[k]'h = (j : Int) := by simpa [h] using hj
  simp [thenL, h, h1]

theorem rowInfo : (Try.prog.info? 2).map (fun i => (i.zero, i.size, i.bytes)) = some (some (.int .i64 0), 1, 8) := by kernel_rfl

theorem ownsRow_empty (w : World) (t : TypeId) : (w.alloc (.cells #[] t)).ownsRow w.heap.size t 1 (.slice (some ⟨w.heap.size, 0, none⟩) 0 0) 0 [] :=
  ⟨by simp, .inr ⟨w.heap.size, 0, #[], rfl, Nat.le_refl _, heap_alloc_new _ _, Nat.le_refl _, by unfold maxLen; omega, by simp, by simp⟩⟩

theorem own_new {w : World} {v : Value} : ∀ j u, [v][j]? = some u → (w.alloc (.cells #[v] 2)).cell? ((⟨w.heap.size, 0, none⟩ : Addr).add j) = some u := by
  intro j u hj
  match j, hj with
  | 0, hj => simp at hj; subst hj; simp [Addr.add, World.cell?_alloc_new]

def ThenRes (p q xs : List Int) (code : Int) : Prop :=
  (Prm p ∧ Prm q ∧ p.length = q.length ∧ xs = thenL p q ∧ code = 0) ∨ (¬ (Prm p ∧ Prm q ∧ p.length = q.length) ∧ xs = [] ∧ code = 1)

theorem ThenRes.ex (p q : List Int) : ∃ xs code, ThenRes p q xs code ∧ xs.length ≤ 12 := by
  by_cases h : Prm p ∧ Prm q ∧ p.length = q.length
  · exact ⟨_, _, .inl ⟨h.1, h.2.1, h.2.2, rfl, rfl⟩, by rw [thenL_length]; exact h.1.2.1⟩
  · exact ⟨_, _, .inr ⟨h, rfl, rfl⟩, by simp⟩

theorem l01Then_any (A C : Option Addr) (n c m d : Nat) (xs ys : List Int) (w : World) (hn : xs.length = n) (hm : ys.length = m) (hb : n ≤ 1048576) (hb2 : m ≤ 1048576) (hx : Rd w A xs) (hy : Rd w C ys) (hin : ∀ x ∈ xs, 0 ≤ x ∧ x < (m : Int)) :
    Calls Try.prog 35 #[.slice A n c, .slice C m d] w fun e w' => ∃ A' c', e = .returned (.slice A' n c') ∧ Below w.heap.size w w' ∧ Res 2 w.heap.size w' A' (thenL xs ys) := by
  have HN := hide hn
  have HM := hide hm
  have HIN := hide hin
  clear hn hm hin
  obtain ⟨i0, hi, hz0, hz1, hz2⟩ := info_parts rowInfo
  go_enter Try.func35, Try.ntmps35
  go_wp2_with fail
  go_loopw [5, 6] (fun v i wr => ∃ k : Nat, k ≤ n ∧ i = .int .i64 k ∧ Below w.heap.size w wr ∧ wr.ownsRow w.heap.size 2 1 v k (ints ((thenL xs ys).take k)) ∧ w.heap.size ≤ wr.heap.size) (fun _ i _ => n - (intOf i).toNat)
  case atStart => exact ⟨0, Nat.zero_le _, rfl, (Below.refl _ _).alloc (Nat.le_refl _) _, by simpa [ints] using ownsRow_empty w _, by simp⟩
  case round =>
    obtain ⟨k, hk, rfl, hbe, hown, hsz⟩ := hrel
    have HB := hide hbe
    have HO := hide hown
    clear hbe hown
    by_cases hlt : k < n
    · obtain ⟨b, o, rfl, hbw, hc⟩ := hx (by have := HN.out; omega)
      have hc1 : wr.cell? ⟨b, o + k, none⟩ = some (.int .i64 (xs.getD k 0)) := (HB.out.cell (p := ⟨b, o + k, none⟩) hbw).trans (hc k (by have := HN.out; omega))
      have hl : k < xs.length := by have := HN.out; omega
      have hr := HIN.out (xs.getD k 0) (by simp [hl])
      have HL := hide hl
      obtain ⟨x, hx'⟩ : ∃ x, xs.getD k 0 = x := ⟨_, rfl⟩
      rw [hx'] at hc1 hr
      have HX := hide hx'
      clear hx' hc hl
      obtain ⟨j, rfl⟩ := Int.eq_ofNat_of_zero_le hr.1
      obtain ⟨b2, o2, rfl, hbw2, hc2⟩ := hy (by have := HM.out; omega)
      have hc3 : wr.cell? ⟨b2, o2 + j, none⟩ = some (.int .i64 (ys.getD j 0)) := (HB.out.cell (p := ⟨b2, o2 + j, none⟩) hbw2).trans (hc2 j (by have := HM.out; omega))
      obtain ⟨y, hy'⟩ : ∃ y, ys.getD j 0 = y := ⟨_, rfl⟩
      rw [hy'] at hc3
      have HY := hide hy'
      clear hy' hc2
      have hltz : (k : Int) < n := by omega
      have hjz : (j : Int) < m := hr.2
      clear hr
      go_wp2_with (at_builtin; refine wpList_append_own _ rfl _ _ 39 rfl w.heap.size 2 i0 (.int .i64 0) 1 8 Try.underlying39 hi hz0 hz1 hz2 rfl (by decide) _ _ _ rfl (HO.out.alloc _) ⟨wr.heap.size, 0, none⟩ 1 1 [.int .i64 y] rfl rfl ?c1 ?c2 ?c3 ?c4 ?c5 ?_)
      case c1 => exact own_new
      case c2 => intro u hu; simp at hu; subst hu; rfl
      case c3 => unfold maxLen; omega
      case c4 => omega
      case c5 => simp; omega
      intro v' w1 hown' hgrow _
      have HO' := hide hown'
      have HG := hide hgrow
      clear hown' hgrow
      go_wp2_with fail
      go_roundw
      case rel =>
        have hB1 : Below w.heap.size w w1 := (HB.out.alloc hsz _).grown HG.out (by simp; omega) (fun g hg => (HO.out.alloc (.cells #[.int .i64 y] 2)).lt g hg |>.1)
        refine ⟨k + 1, by omega, by go_num, hB1, ?_, by have := hB1.size; omega⟩
        have h := HO'.out
        have e : ints ((thenL xs ys).take k) ++ [.int .i64 y] = ints ((thenL xs ys).take (k + 1)) := by
          have hl2 : k < (thenL xs ys).length := by rw [thenL_length]; exact HL.out
          rw [List.take_succ_eq_append_getElem hl2]
          have : (thenL xs ys)[k] = y := by
            have h1 : xs[k]'HL.out = (j : Int) := by have := HX.out; simpa [HL.out] using this
            simp only [thenL, List.getElem_map, h1]
            simpa using HY.out
          rw [this]
          simp [ints]
        rw [e] at h
        exact h
      case measure => simp [intOf]; omega
    · have hkn : k = n := by omega
      subst hkn
      go_wp2_with fail
      have h := HO.out
      rw [List.take_of_length_le (by rw [thenL_length]; have := HN.out; omega)] at h
      go_ret
      obtain ⟨A', c', hv, hres⟩ := own_shape h
      exact ⟨A', c', by rw [← hv]; rfl, HB.out, hres⟩
end Go.Proofs.Ytjonojaffdicfaa
namespace Go.Proofs.Ytjonojaffdicfaa
open Go Go.RowKit

/-- The digit of an element, as a byte. -/
def dg (x : Int) : Int := if x < 10 then 48 + x else 87 + x
theorem dg_range (x : Int) (h0 : 0 ≤ x) (h1 : x < 12) : 48 ≤ dg x ∧ dg x < 123 := by unfold dg; split <;> omega
/-- The digits of a list. -/
def lineL (xs : List Int) : List Int := xs.map dg
theorem lineL_length (xs : List Int) : (lineL xs).length = xs.length := by simp [lineL]
def lineS (xs : List Int) : ByteArray := strOfNums (lineL xs)
theorem lineS_size (xs : List Int) : (lineS xs).size = xs.length := by unfold lineS; rw [strOfNums_size, lineL_length]
theorem lineS_snoc (xs : List Int) (x : Int) : lineS xs ++ lineS [x] = lineS (xs ++ [x]) := by
  unfold lineS strOfNums lineL
  apply ByteArray.ext
  simp
theorem lineS_nil : lineS [] = ⟨#[]⟩ := rfl

def PTextRes (p : List Int) (s : ByteArray) (code : Int) : Prop := (Prm p ∧ s = lineS p ∧ code = 0) ∨ (¬ Prm p ∧ s = ⟨#[]⟩ ∧ code = 1)
theorem PTextRes.ex (p : List Int) : ∃ s code, PTextRes p s code := by
  by_cases h : Prm p
  · exact ⟨_, _, .inl ⟨h, rfl, rfl⟩⟩
  · exact ⟨_, _, .inr ⟨h, rfl, rfl⟩⟩
theorem Prm.dig {p : List Int} (h : Prm p) : ∀ x ∈ p, 0 ≤ x ∧ x < 12 := fun x hx => by
  have h1 := h.2.2.1 x hx
  have h2 := h.2.1
  omega
end Go.Proofs.Ytjonojaffdicfaa
namespace Go.Proofs.Ytjonojaffdicfaa
open Go Go.RowKit
set_option maxHeartbeats 1000000

theorem idInfo : (Try.prog.info? 2).map (fun i => (i.zero, i.size, i.bytes)) = some (some (.int .i64 0), 1, 8) := by kernel_rfl
def unitL (n : Nat) : List Int := (List.range n).map fun (x : Nat) => Int.ofNat x
theorem unitL_length (n : Nat) : (unitL n).length = n := by simp [unitL]
theorem unitL_getD (n k : Nat) (h : k < n) : (unitL n).getD k 0 = (k : Int) := by simp [unitL, h]

theorem identityOf_any (n : Nat) (w : World) (hb : n ≤ 1048576) :
    Calls Try.prog 39 #[.int .i64 n] w fun e w' => e = .returned (.slice (some ⟨w.heap.size, 0, none⟩) n n) ∧ Below w.heap.size w w' ∧ Row 2 w' w.heap.size (unitL n) ∧ w'.heap.size = w.heap.size + 1 := by
  have hmk := run_make_row' (P := Try.prog) 55 2 (.int .i64 0) 8 Try.underlying55 idInfo rfl .i64 .i64 n (by omega) (by omega)
  go_enter Try.func39, Try.ntmps39
  go_wp2_with fail
  clear hmk
  go_loopw [9] (fun i wr => ∃ k : Nat, k ≤ n ∧ i = .int .i64 k ∧ Below w.heap.size w wr ∧ Row 2 wr w.heap.size ((unitL n).take k ++ List.replicate (n - k) 0) ∧ wr.heap.size = w.heap.size + 1) (fun i _ => n - (intOf i).toNat)
  case atStart => exact ⟨0, Nat.zero_le _, rfl, (Below.refl _ _).alloc (Nat.le_refl _) _, by simpa using Row.made 2 w n, by simp⟩
  case round =>
    obtain ⟨k, hk, rfl, hbe, hrow, hsz⟩ := hrel
    have HB := hide hbe
    have HROW := hide hrow
    have HSZ := hide hsz
    clear hbe hrow hsz
    have HU : Hid ((unitL n).length = n) := hide (unitL_length n)
    by_cases hlt : k < n
    · have h2 := HROW.out.cell (i := k) (by have := HU.out; simp; omega)
      have h3 := HROW.out.frozen k
      have hltz : (k : Int) < n := by omega
      go_wp2_with fail
      go_roundw
      case rel =>
        have hst := HROW.out.set k ((unitL n).getD k 0)
        rw [fill_step (unitL n) n k HU.out hlt, unitL_getD n k hlt] at hst
        exact ⟨k + 1, by omega, by go_num, HB.out.setCell (p := ⟨w.heap.size, k, none⟩) (Nat.le_refl _) _, hst, by have := HSZ.out; simpa [World.setCell] using this⟩
      case measure => simp [intOf]; omega
    · have hkn : k = n := by omega
      subst hkn
      go_wp2_with fail
      go_ret
      have h := HROW.out
      have hz := HU.out
      rw [Nat.sub_self, List.replicate_zero, List.append_nil, List.take_of_length_le (by omega)] at h
      exact ⟨rfl, HB.out, h, HSZ.out⟩
end Go.Proofs.Ytjonojaffdicfaa
namespace Go.Proofs.Ytjonojaffdicfaa
open Go Go.RowKit

def cmpL : List Int → List Int → Int
  | [], [] => 0
  | [], _ :: _ => -1
  | _ :: _, [] => 1
  | x :: xs, y :: ys => if x < y then -1 else if y < x then 1 else cmpL xs ys
def lessL : List Int → List Int → Bool
  | [], [] => false
  | [], _ :: _ => true
  | _ :: _, [] => false
  | x :: xs, y :: ys => if x = y then lessL xs ys else decide (x < y)
def cmpT : List (List Int) → List (List Int) → Int
  | [], [] => 0
  | [], _ :: _ => -1
  | _ :: _, [] => 1
  | x :: xs, y :: ys => if cmpL x y = 0 then cmpT xs ys else cmpL x y
def lessT : List (List Int) → List (List Int) → Bool
  | [], [] => false
  | [], _ :: _ => true
  | _ :: _, [] => false
  | x :: xs, y :: ys => if x = y then lessT xs ys else lessL x y

theorem cmpL_zero (xs ys : List Int) : cmpL xs ys = 0 ↔ xs = ys := by
  induction xs generalizing ys with
  | nil => cases ys <;> simp [cmpL]
  | cons x xs ih =>
    cases ys with
    | nil => simp [cmpL]
    | cons y ys =>
      unfold cmpL
      by_cases h1 : x < y
      · rw [if_pos h1]; simp; omega
      · by_cases h2 : y < x
        · rw [if_neg h1, if_pos h2]; simp; omega
        · rw [if_neg h1, if_neg h2, ih]
          have : x = y := by omega
          simp [this]
theorem cmpL_neg (xs ys : List Int) : cmpL xs ys < 0 ↔ lessL xs ys = true := by
  induction xs generalizing ys with
  | nil => cases ys <;> simp [cmpL, lessL]
  | cons x xs ih =>
    cases ys with
    | nil => simp [cmpL, lessL]
    | cons y ys =>
      unfold cmpL lessL
      by_cases h1 : x < y
      · rw [if_pos h1, if_neg (by omega)]; simp [h1]
      · by_cases h2 : y < x
        · rw [if_neg h1, if_pos h2, if_neg (by omega)]; simp [h1]
        · rw [if_neg h1, if_neg h2, if_pos (by omega), ih]
theorem cmpL_range (xs ys : List Int) : -1 ≤ cmpL xs ys ∧ cmpL xs ys ≤ 1 := by
  induction xs generalizing ys with
  | nil => cases ys <;> simp [cmpL]
  | cons x xs ih =>
    cases ys with
    | nil => simp [cmpL]
    | cons y ys =>
      unfold cmpL
      split
      · omega
      · split
        · omega
        · exact ih ys
theorem cmpT_neg (xs ys : List (List Int)) : cmpT xs ys < 0 ↔ lessT xs ys = true := by
  induction xs generalizing ys with
  | nil => cases ys <;> simp [cmpT, lessT]
  | cons x xs ih =>
    cases ys with
    | nil => simp [cmpT, lessT]
    | cons y ys =>
      unfold cmpT lessT
      by_cases h : x = y
      · rw [if_pos ((cmpL_zero x y).2 h), if_pos h, ih]
      · rw [if_neg (fun e => h ((cmpL_zero x y).1 e)), if_neg h, cmpL_neg]
theorem lessT_irrefl (xs : List (List Int)) : lessT xs xs = false := by
  induction xs with
  | nil => rfl
  | cons x xs ih => simp [lessT, ih]

theorem drop_cons (xs : List Int) (k : Nat) (h : k < xs.length) : xs.drop k = xs.getD k 0 :: xs.drop (k + 1) := by
  rw [List.drop_eq_getElem_cons h]
  simp [h]
theorem drop_cons2 (xs : List (List Int)) (k : Nat) (h : k < xs.length) : xs.drop k = xs.getD k [] :: xs.drop (k + 1) := by
  rw [List.drop_eq_getElem_cons h]
  simp [h]
end Go.Proofs.Ytjonojaffdicfaa
