import Derived.Test.YtljdfanebjhhmaaZg
import Derived.Test.YtljdfanebjhhmaaZj
import Derived.Test.YtljdfanebjhhmaaZi
import Derived.Test.YtljdfanebjhhmaaZb
import Derived.Test.YtljdfanebjhhmaaZk
namespace Go.Proofs.Ytljdfanebjhhmaa
open Go Go.RowKit

/-- One row of a table renamed by p, written into what is there, after y values. -/
def renRow (rows : List (List Int)) (p : List Int) (x : Nat) : Nat → (Nat → Nat → Int) → Nat → Nat → Int
  | 0, f => f
  | y + 1, f => fun a b => if a = (p.getD x 0).toNat ∧ b = (p.getD y 0).toNat then p.getD ((rows.getD x []).getD y 0).toNat 0 else renRow rows p x y f a b
/-- .. and after x rows of n values. -/
def renTo (rows : List (List Int)) (p : List Int) (n : Nat) : Nat → (Nat → Nat → Int) → Nat → Nat → Int
  | 0, f => f
  | x + 1, f => renRow rows p x n (renTo rows p n x f)
/-- The table renamed. -/
def renL (rows : List (List Int)) (p : List Int) : List (List Int) := grid rows.length (renTo rows p rows.length rows.length fun _ _ => 0)
theorem renL_length (rows : List (List Int)) (p : List Int) : (renL rows p).length = rows.length := grid_length _ _

theorem elem_range {p : List Int} {n : Nat} (h : ∀ x ∈ p, 0 ≤ x ∧ x < (n : Int)) {i : Nat} (hi : i < p.length) : ∃ j : Nat, p.getD i 0 = (j : Int) ∧ j < n := by
  have h1 := h (p.getD i 0) (by simp [hi])
  obtain ⟨j, hj⟩ := Int.eq_ofNat_of_zero_le h1.1
  exact ⟨j, hj, by omega⟩

def RenRes (rows : List (List Int)) (p : List Int) (zs : List (List Int)) (code : Int) : Prop :=
  (Tbl rows ∧ Prm p ∧ rows.length = p.length ∧ zs = renL rows p ∧ code = 0) ∨ (¬ (Tbl rows ∧ Prm p ∧ rows.length = p.length) ∧ zs = [] ∧ code = 1)
theorem RenRes.ex (rows : List (List Int)) (p : List Int) : ∃ zs code, RenRes rows p zs code ∧ zs.length ≤ 1048576 ∧ ∀ i, i < zs.length → (zs.getD i []).length ≤ 1048576 := by
  by_cases h : Tbl rows ∧ Prm p ∧ rows.length = p.length
  · refine ⟨_, _, .inl ⟨h.1, h.2.1, h.2.2, rfl, rfl⟩, by rw [renL_length]; have := h.1.2.1; omega, fun i hi => ?_⟩
    rw [renL_length] at hi
    unfold renL
    rw [grid_row_length _ _ _ hi]
    have := h.1.2.1
    omega
  · exact ⟨_, _, .inr ⟨h, rfl, rfl⟩, by simp, fun i hi => by simp at hi⟩
end Go.Proofs.Ytljdfanebjhhmaa
namespace Go.Proofs.Ytljdfanebjhhmaa
open Go Go.RowKit
set_option maxHeartbeats 2000000

theorem gsInfo : (Try.prog.info? 2).map (fun i => (i.zero, i.size, i.bytes)) = some (some (.int .i64 0), 1, 8) := by kernel_rfl
theorem gsInfo2 : (Try.prog.info? 33).map (fun i => (i.zero, i.size, i.bytes)) = some (some (.slice none 0 0), 1, 24) := by kernel_rfl
theorem gs_new {w : World} {v : Value} {t : TypeId} : ∀ j u, [v][j]? = some u → (w.alloc (.cells #[v] t)).cell? ((⟨w.heap.size, 0, none⟩ : Addr).add j) = some u := by
  intro j u hj
  match j, hj with
  | 0, hj => simp at hj; subst hj; simp [Addr.add, World.cell?_alloc_new]

/-- What the elements below x have brought. -/
def growTo (n f : Nat) (st : List Int) (x : Nat) : List (List Int) := (List.range x).flatMap fun (y : Nat) => if st.contains (Int.ofNat y) then [] else growS n f (st ++ [Int.ofNat y])
theorem growTo_succ (n f : Nat) (st : List Int) (x : Nat) : growTo n f st (x + 1) = growTo n f st x ++ (if st.contains (Int.ofNat x) then [] else growS n f (st ++ [Int.ofNat x])) := by
  unfold growTo
  rw [List.range_succ, List.flatMap_append]
  simp
theorem growTo_le (n f : Nat) (st : List Int) (x y : Nat) (h : x ≤ y) : (growTo n f st x).length ≤ (growTo n f st y).length := by
  induction y with
  | zero =>
    obtain rfl : x = 0 := by omega
    exact Nat.le_refl _
  | succ y ih =>
    by_cases e : x = y + 1
    · subst e; exact Nat.le_refl _
    · have := ih (by omega)
      rw [growTo_succ, List.length_append]
      omega

/-- What the call leaves: the list, grown. -/
def GrowPost (ts t : TypeId) (B : Nat) (rows : List (List Int)) (w : World) (e : Ending) (w' : World) : Prop :=
  ∃ v' vals', e = .returned v' ∧ KeepT t w w' ∧ Below B w w' ∧ B ≤ w'.heap.size ∧ LstV ts t B w' v' rows vals'

theorem grow_any (B : Nat) (f : Nat) : ∀ (n m c a : Nat) (st : List Int) (v : Value) (rows : List (List Int)) (vals : List Value) (w : World), st.length = m → m + f = n → n ≤ 12 → B ≤ w.heap.size →
    Obj1 2 B w.heap.size w (some ⟨a, 0, none⟩) st → LstV 33 2 B w v rows vals → (∀ (i : Nat) (u : Value) (g : Nat), vals[i]? = some u → u.ownBlock = some g → a ≠ g) → rows.length + (growS n f st).length ≤ 1048576 →
    Calls Try.prog 107 #[.int .i64 n, .slice (some ⟨a, 0, none⟩) m c, v] w (GrowPost 33 2 B (rows ++ growS n f st) w) := by
  induction f with
  | zero =>
    intro n m c a st v rows vals w hst hmn hn hB hobj hlst hdis hle
    obtain ⟨i0, hi, hz0, hz1, hz2⟩ := info_parts gsInfo2
    have hmn' : m = n := by omega
    subst hmn'
    have HST := hide hst
    have HO := hide hobj
    have HL := hide hlst
    have HD := hide hdis
    have hr : rows.length + 1 ≤ 1048576 := by simpa [growS] using hle
    have heq : ((m : Int) == (m : Int)) = true := by simp
    have hal : Below w.heap.size w (w.alloc (.cells #[.slice (some ⟨a, 0, none⟩) m c] 33)) := (Below.refl _ _).alloc (Nat.le_refl _) _
    have HAL := hide hal
    have hown := ownsRow_below HL.out.own hal
    have HOW := hide hown
    clear hst hobj hlst hdis hle hal hown hmn
    go_enter Try.func107, Try.ntmps107
    go_wp2_with (at_builtin; refine wpList_append_own _ rfl _ _ 22 rfl B 33 i0 (.slice none 0 0) 1 24 Try.underlying22 hi hz0 hz1 hz2 rfl (by decide) _ _ _ rfl HOW.out ⟨w.heap.size, 0, none⟩ 1 1 [.slice (some ⟨a, 0, none⟩) m c] rfl rfl ?c1 ?c2 ?c3 ?c4 ?c5 ?_)
    case c1 => exact gs_new
    case c2 => intro u hu; simp at hu; subst hu; rfl
    case c3 => unfold maxLen; omega
    case c4 => omega
    case c5 => simp; omega
    intro v' w1 hown' hgrow _
    have HO' := hide hown'
    have HG := hide hgrow
    clear hown' hgrow
    go_wp2_with fail
    go_ret
    have hB1 : Below B w w1 := (HAL.out.mono hB).grown HG.out (by simp; omega) (fun g hg => (HOW.out.lt g hg).1)
    have hk : KeepT 2 w w1 := (KeepT.of_below HAL.out).trans (KeepT.of_grown (by decide) HOW.out HG.out)
    have hpush := LstV.push2 (tmp := .cells #[.slice (some ⟨a, 0, none⟩) m c] 33) (A := some ⟨a, 0, none⟩) (c := c) (r := st) (w1 := w1) (v' := v') (by decide) HL.out HO.out (fun i u g hu hg b hb => by cases hb; exact HD.out i u g hu hg) (by rw [HST.out]; exact HO'.out) HG.out
    exact ⟨v', _, rfl, hk, hB1, Nat.le_trans hB hB1.size, hpush⟩
  | succ f ih =>
    intro n m c a st v rows vals w hst hmn hn hB hobj hlst hdis hle
    obtain ⟨i1, hi1, hy0, hy1, hy2⟩ := info_parts gsInfo
    have HST := hide hst
    have HO := hide hobj
    have HL := hide hlst
    have heq : ((m : Int) == (n : Int)) = false := by simp; omega
    have hleT : rows.length + (growTo n f st n).length ≤ 1048576 := hle
    have HLE := hide hleT
    have HIH := hide ih
    have hmn' : m < n := by omega
    have HMN := hide hmn
    clear hst hobj hlst hdis hle hleT ih hmn
    go_enter Try.func107, Try.ntmps107
    go_wp2_with fail
    go_loopw [2, 7] (fun v i wr => ∃ (x : Nat) (vals : List Value), x ≤ n ∧ i = .int .i64 x ∧ KeepT 2 w wr ∧ Below B w wr ∧ B ≤ wr.heap.size ∧ w.heap.size ≤ wr.heap.size ∧ LstV 33 2 B wr v (rows ++ growTo n f st x) vals) (fun _ i _ => n - (intOf i).toNat)
    case atStart => exact ⟨0, vals, Nat.zero_le _, rfl, KeepT.refl _ _, Below.refl _ _, hB, Nat.le_refl _, by simpa [growTo] using HL.out⟩
    case round =>
      obtain ⟨x, vals2, hx, rfl, hk, hbe, hBr, hsz, hlst⟩ := hrel
      have HK := hide hk
      have HBE := hide hbe
      have HL2 := hide hlst
      clear hk hbe hlst
      by_cases hlt : x < n
      · have hltz : (x : Int) < n := by omega
        have hst2 := HK.out.obj HO.out
        have HST2 := hide (hst2.mono (Nat.le_refl _) hsz)
        clear hst2
        by_cases hm : (x : Int) ∈ st
        · have HM := hide hm
          clear hm
          go_wp2_with fail
          refine (has_any _ _ _ st _ true _ HST.out (by omega) HST2.out.rd (by simp [HM.out])).mono ?_
          rintro e w2 ⟨rfl, hq2⟩
          have HQ2 := hide hq2
          clear hq2
          go_wp2_with fail
          go_roundw
          case rel =>
            obtain ⟨q, rfl⟩ := HQ2.out
            have e : growTo n f st (x + 1) = growTo n f st x := by
              rw [growTo_succ, if_pos (by rw [List.contains_iff_mem]; exact HM.out), List.append_nil]
            exact ⟨x + 1, vals2, by omega, by go_num, fun k cur h => HK.out k cur h, (HBE.out.trans ((Quiet.of wr q).below B)), hBr, hsz, by rw [e]; exact ⟨HL2.out.own, HL2.out.row, HL2.out.ne⟩⟩
          case measure => simp [intOf]; omega
        · have HM := hide hm
          clear hm
          go_wp2_with fail
          refine (has_any _ _ _ st _ false _ HST.out (by omega) HST2.out.rd (by simp [HM.out])).mono ?_
          rintro e w2 ⟨rfl, hq2⟩
          have HQ2 := hide hq2
          have HST3 := hide (HST2.out.later (hq2.below _))
          have HL3 := hide (HL2.out.later (hq2.below _))
          have hsz2 : wr.heap.size ≤ w2.heap.size := by rw [hq2.size]; exact Nat.le_refl _
          clear hq2
          have hrd := HST3.out.rd
          have hcells : ∀ i, i < st.length → w2.cell? ⟨a, 0 + i, none⟩ = some (.int .i64 (st.getD i 0)) := fun i hi => by
            obtain ⟨b, o, e, _, hc⟩ := hrd (by omega)
            cases e
            exact hc i hi
          have hab : a < w2.heap.size := Nat.lt_of_lt_of_le (HST3.out.bounds _ rfl).2 (by omega)
          have HC := hide hcells
          clear hrd hcells
          go_wp2_with fail
          refine (own_any a 0 m c st _ HST.out (by omega) hab HC.out).mono ?_
          rintro e w3 ⟨v3, rfl, hb3, ho3⟩
          have HB3 := hide hb3
          have HO3 := hide ho3
          have hs3 := hb3.size
          clear hb3 ho3
          go_wp2_with (at_builtin; refine wpList_append_own _ rfl _ _ 33 rfl w2.heap.size 2 i1 (.int .i64 0) 1 8 Try.underlying33 hi1 hy0 hy1 hy2 rfl (by decide) _ _ _ rfl (HO3.out.alloc _) ⟨w3.heap.size, 0, none⟩ 1 1 [.int .i64 (x : Int)] rfl rfl ?c1 ?c2 ?c3 ?c4 ?c5 ?_)
          case c1 => exact gs_new
          case c2 => intro u hu; simp at hu; subst hu; rfl
          case c3 => unfold maxLen; omega
          case c4 => omega
          case c5 => simp; omega
          intro v4 w4 hown' hgrow hnn
          have HO4 := hide hown'
          have HG4 := hide hgrow
          have e4 : ints st ++ [.int .i64 (x : Int)] = ints (st ++ [(x : Int)]) := by simp [ints]
          have hown2 := hown'
          rw [e4] at hown2
          have hB4 : Below w2.heap.size w2 w4 := (HB3.out.alloc (by omega) _).grown HG4.out (by simp; omega) (fun g hg => ((HO3.out.alloc (.cells #[.int .i64 (x : Int)] 2)).lt g hg).1)
          have HB4 := hide hB4
          have hs4 := hB4.size
          obtain ⟨A4, c4, hv4, hres4⟩ := own_shape hown2
          have hobj4 := hres4.obj
          rcases hobj4 with ⟨_, e⟩ | ⟨a4, e, ha4, ha5, hob4⟩
          · simp at e
          · subst e
            have HOB4 : Hid (Obj1 2 w2.heap.size w4.heap.size w4 (some ⟨a4, 0, none⟩) (st ++ [(x : Int)])) := hide (.inr ⟨a4, rfl, ha4, ha5, hob4⟩)
            have HL4 := hide (HL3.out.later HB4.out)
            have HK4 := hide ((KeepT.of_below (t := 2) HB4.out))
            rw [hv4]
            clear hown' hgrow hnn hown2 hB4 hres4 hob4 hv4 e4
            go_wp2_with fail
            have hls : (st ++ [(x : Int)]).length = m + 1 := by have := HST.out; simp; omega
            have hg1 := growTo_succ n f st x
            have hcon : st.contains (Int.ofNat x) = false := by
              have h := HM.out
              cases hc : st.contains (Int.ofNat x)
              · rfl
              · rw [List.contains_iff_mem] at hc
                exact absurd hc h
            rw [hcon] at hg1
            have hg2 := growTo_le n f st (x + 1) n (by omega)
            have hbound : (rows ++ growTo n f st x).length + (growS n f (st ++ [(x : Int)])).length ≤ 1048576 := by
              have h := HLE.out
              have e2 : (growTo n f st (x + 1)).length = (growTo n f st x).length + (growS n f (st ++ [(x : Int)])).length := by
                rw [hg1, List.length_append]
                rfl
              rw [List.length_append]
              omega
            refine (HIH.out n (m + 1) c4 a4 (st ++ [(x : Int)]) u2 (rows ++ growTo n f st x) vals2 w4 hls (by have := HMN.out; omega) hn (by omega) (HOB4.out.mono (by omega) (Nat.le_refl _)) HL4.out (fun i u g hu hg => by have := HL3.out.low i u g hu hg; omega) hbound).mono ?_
            rintro e w5 ⟨v5, vals5, rfl, hk5, hb5, hB5, hl5⟩
            have HK5 := hide hk5
            have HB5 := hide hb5
            have HL5 := hide hl5
            have HG1 := hide hg1
            have hkk : KeepT 2 wr w2 := KeepT.of_below (HQ2.out.below _)
            have HKK := hide hkk
            clear hk5 hb5 hl5 hg1 hg2 hbound hls hcon hkk
            go_wp2_with fail
            go_roundw
            case rel =>
              have e : rows ++ growTo n f st (x + 1) = (rows ++ growTo n f st x) ++ growS n f (st ++ [(x : Int)]) := by
                rw [HG1.out, List.append_assoc]
                rfl
              exact ⟨x + 1, vals5, by omega, by go_num, ((HK.out.trans HKK.out).trans HK4.out).trans HK5.out, ((HBE.out.trans (HQ2.out.below B)).trans (HB4.out.mono (by omega))).trans HB5.out, hB5, by have := HB5.out.size; omega, by rw [e]; exact HL5.out⟩
            case measure => simp [intOf]; omega
      · have hxn : x = n := by omega
        subst hxn
        go_wp2_with fail
        go_ret
        exact ⟨_, vals2, rfl, HK.out, HBE.out, hBr, HL2.out⟩
end Go.Proofs.Ytljdfanebjhhmaa
