import Derived.Test.YtkflmhmbkilmpabProg
import Derived.Test.YtkflmhmbkilmpabAdvF
import Derived.BigRegion
import Derived.Test.YtkflmhmbkilmpabPermsF
import Derived.Test.YtkflmhmbkilmpabHas
import Derived.Test.YtkflmhmbkilmpabOwnS
import Derived.Test.YtkflmhmbkilmpabLst
import Derived.Test.YtkflmhmbkilmpabIn
import Derived.Test.YtkflmhmbkilmpabLst2
import Derived.Test.YtkflmhmbkilmpabKiF
import Derived.Test.YtkflmhmbkilmpabLessS
import Derived.Test.YtkflmhmbkilmpabCmpF
import Derived.Test.YtkflmhmbkilmpabOwn
import Derived.Test.YtkflmhmbkilmpabRenF
import Derived.Test.YtkflmhmbkilmpabPig
import Derived.Test.YtkflmhmbkilmpabOwK
import Derived.StillTailTactics
import Derived.Test.YtkflmhmbkilmpabGrid
import Derived.Test.YtkflmhmbkilmpabLeastF
import Derived.Test.YtkflmhmbkilmpabTblI
import Derived.Test.YtkflmhmbkilmpabHeld
import Derived.Test.YtkflmhmbkilmpabBlk
import Derived.Deep.AppendLies
import Derived.Deep.RegionLaw
import Derived.Test.YtkflmhmbkilmpabRkF
import Derived.Test.YtkflmhmbkilmpabRowsI
import Derived.Test.YtkflmhmbkilmpabPairsI
import Derived.Test.YtkflmhmbkilmpabReads
import Derived.Test.YtkflmhmbkilmpabKLe
import Derived.Test.YtkflmhmbkilmpabFtI
import Derived.WalkSpells
import Derived.Test.YtkflmhmbkilmpabLst1
import Derived.Test.YtkflmhmbkilmpabObj
import Derived.Test.YtkflmhmbkilmpabTblS
import Derived.Test.YtkflmhmbkilmpabPrmS
namespace Go.Proofs.Ytkflmhmbkilmpab
open Go Go.RowKit
set_option maxHeartbeats 2000000

theorem reverse_any (g s m c : Nat) (q : List Int) (w : World) (hm : 1 ≤ m) (hl : q.length = s + m) (hb : m ≤ 1048576) (hq : Row 2 w g q) :
    Calls Try.prog 97 #[.slice (some ⟨g, s, none⟩) m c] w fun e w' => e = .returned (.tuple #[]) ∧ Only (some ⟨g, 0, none⟩) w w' ∧ Row 2 w' g (q.take s ++ (q.drop s).reverse) := by
  have HQ := hide hq
  have HL := hide hl
  clear hq hl
  go_enter Try.func97, Try.ntmps97
  go_wp2_with fail
  go_loopw [2, 3] (fun i j wr => ∃ k : Nat, k + k ≤ m ∧ i = .int .i64 k ∧ j = .int .i64 ((m : Int) - 1 - (k : Int)) ∧ Only (some ⟨g, 0, none⟩) w wr ∧ Row 2 wr g (revTo q s k)) (fun i _ _ => m - (intOf i).toNat)
  case atStart => exact ⟨0, by omega, rfl, by simp, Only.quiet (Quiet.refl _), HQ.out⟩
  case round =>
    obtain ⟨k, hk, rfl, rfl, ho, hrow⟩ := hrel
    have HO := hide ho
    have HR := hide hrow
    clear ho hrow
    by_cases hlt : k < m - 1 - k
    · obtain ⟨j, hj⟩ : ∃ j : Nat, j = m - 1 - k := ⟨_, rfl⟩
      have hji : (m : Int) - 1 - (k : Int) = (j : Int) := by omega
      have hkj : k < j := by omega
      have hjm : j < m := by omega
      rw [hji]
      have HJ := hide hj
      have hlen := revTo_length q s k
      have h1 := HR.out.cell (i := s + k) (by have := HL.out; omega)
      have h2 := HR.out.cell (i := s + j) (by have := HL.out; omega)
      obtain ⟨x, hx⟩ : ∃ x, (revTo q s k).getD (s + k) 0 = x := ⟨_, rfl⟩
      obtain ⟨y, hy⟩ : ∃ y, (revTo q s k).getD (s + j) 0 = y := ⟨_, rfl⟩
      rw [hx] at h1
      rw [hy] at h2
      have HX := hide hx
      have HY := hide hy
      have h3 := HR.out.frozen (s + k)
      have h4 := HR.out.frozen (s + j)
      clear hj hji hlen hx hy
      have hkjz : (k : Int) < (j : Int) := by omega
      have hkmz : (k : Int) < (m : Int) := by omega
      have hjmz : (j : Int) < (m : Int) := by omega
      go_wp2_with fail
      obtain ⟨y', hy'⟩ := cell?_setCell_some (w := wr.drew) (p := ⟨g, s + k, none⟩) (x := Value.int IntKind.i64 y) (q := ⟨g, s + j, none⟩) (v := Value.int IntKind.i64 y) (by go_simp)
      go_region
      go_wp2_with fail
      go_roundw
      case rel =>
        have hs1 := (HR.out.set (s + k) y).set (s + j) x
        have e : ((revTo q s k).set (s + k) y).set (s + j) x = revTo q s (k + 1) := by
          have hl := HL.out
          have hj := HJ.out
          have e2 : q.length - 1 - k = s + j := by omega
          simp only [revTo]
          rw [e2, HX.out, HY.out]
        rw [e] at hs1
        refine ⟨k + 1, by omega, by go_num, by have := HJ.out; go_num, ?_, hs1⟩
        have h1 := HO.out
        exact ⟨h1.os, h1.tape, h1.output, by have := h1.size; simpa [World.setCell, World.drew] using this, fun i hi hne => (Below.heap_setCell _ _ _ _ (fun e => hne (by rw [e]; rfl))).trans ((Below.heap_setCell _ _ _ _ (fun e => hne (by rw [e]; rfl))).trans (h1.block i hi hne))⟩
      case measure => simp [intOf]; omega
    · have hgez : ¬ ((k : Int) < (m : Int) - 1 - (k : Int)) := by omega
      go_wp2_with fail
      go_end0
      have hl := HL.out
      rw [← revTo_done q s k (by omega) (by omega) (by omega)]
      exact ⟨rfl, HO.out, HR.out⟩

/-- What advance does to the list in block g. -/
def AdvPost (t : TypeId) (g : Nat) (p : List Int) (w : World) (e : Ending) (w' : World) : Prop :=
  (adv p = none ∧ e = .returned (.bool false) ∧ Only (some ⟨g, 0, none⟩) w w' ∧ Row t w' g p) ∨ (∃ q, adv p = some q ∧ e = .returned (.bool true) ∧ Only (some ⟨g, 0, none⟩) w w' ∧ Row t w' g q)

theorem only_drewN {A : Option Addr} {w w' : World} (h : Only A w w') (q : Nat) : Only A w (w'.drewN q) := ⟨h.os, h.tape, h.output, h.size, h.block⟩
theorem only_trans {A : Option Addr} {a b c : World} (h : Only A a b) (k : Only A b c) : Only A a c :=
  ⟨k.os.trans h.os, k.tape.trans h.tape, k.output.trans h.output, Nat.le_trans h.size k.size, fun i hi hne => (k.block i (Nat.lt_of_lt_of_le hi h.size) hne).trans (h.block i hi hne)⟩

theorem advance_any (g n c : Nat) (p : List Int) (w : World) (hn : p.length = n) (h1 : 1 ≤ n) (hnc : n ≤ c) (hb : n ≤ 1048576) (hp : Row 2 w g p) :
    Calls Try.prog 82 #[.slice (some ⟨g, 0, none⟩) n c] w (AdvPost 2 g p w) := by
  have HN := hide hn
  have HP := hide hp
  have HA : Hid (adv p = match scanI p (n - 1) with | none => none | some i => some (advAt p i (scanJ p (p.getD i 0) (n - 1)))) := hide (by rw [← hn]; rfl)
  clear hn hp
  go_enter Try.func82, Try.ntmps82
  go_wp2_with fail
  go_loopw [3] (fun i wr => ∃ k : Nat, k ≤ n - 1 ∧ i = .int .i64 ((k : Int) - 1) ∧ Only (some ⟨g, 0, none⟩) w wr ∧ Row 2 wr g p ∧ scanI p (n - 1) = scanI p k) (fun i _ => (intOf i + 1).toNat)
  case atStart => exact ⟨n - 1, Nat.le_refl _, by congr 1; omega, Only.quiet (Quiet.refl _), HP.out, rfl⟩
  case round =>
    obtain ⟨k, hk, rfl, ho, hrow, hs⟩ := hrel
    have HO := hide ho
    have HR := hide hrow
    have HS := hide hs
    clear ho hrow hs
    cases k with
    | zero =>
      rw [show (((0 : Nat) : Int) - 1) = -1 from rfl]
      have hd : decide ((0 : Int) ≤ -1) = false := by decide
      go_wp2_with fail
      go_quiet (fail)
      go_wp2_with fail
      go_ret
      have h := HA.out
      rw [HS.out] at h
      exact .inl ⟨h, rfl, only_drewN HO.out _, HR.out⟩
    | succ i =>
      have ei : ((i + 1 : Nat) : Int) - 1 = (i : Int) := by omega
      rw [ei]
      have h1 := HR.out.cell (i := i) (by have := HN.out; omega)
      have h2 := HR.out.cell (i := i + 1) (by have := HN.out; omega)
      obtain ⟨x, hx⟩ : ∃ x, p.getD i 0 = x := ⟨_, rfl⟩
      obtain ⟨y, hy⟩ : ∃ y, p.getD (i + 1) 0 = y := ⟨_, rfl⟩
      rw [hx] at h1
      rw [hy] at h2
      have HX := hide hx
      have HY := hide hy
      clear ei hx hy
      have hinz : (i : Int) < n := by omega
      have hinz2 : (i : Int) + 1 < n := by omega
      by_cases hxy : y < x
      · go_wp2_with fail
        go_quiet (fail)
        go_wp2_with fail
        go_roundw
        case rel =>
          refine ⟨i, by omega, rfl, only_drewN HO.out _, HR.out, ?_⟩
          rw [HS.out, scanI, HX.out, HY.out, if_pos hxy]
        case measure => simp [intOf]
      · have hs2 : scanI p (n - 1) = some i := by rw [HS.out, scanI, HX.out, HY.out, if_neg hxy]
        have HS2 := hide hs2
        have hd : decide (y < x) = false := by simpa using hxy
        have HXY := hide hxy
        clear hs2 hxy
        go_wp2_with fail
        go_quiet (fail)
        go_wp2_with fail
        obtain ⟨wo, rfl⟩ : ∃ wo : World, wo = wr := ⟨_, rfl⟩
        go_loopw [4] (fun j wr => ∃ k : Nat, k ≤ n - 1 ∧ i + 1 ≤ k ∧ j = .int .i64 k ∧ Only (some ⟨g, 0, none⟩) w wr ∧ Row 2 wr g p ∧ scanJ p x (n - 1) = scanJ p x k) (fun j _ => (intOf j).toNat)
        case atStart => exact ⟨n - 1, Nat.le_refl _, by omega, by congr 1; omega, only_drewN HO.out _, HR.out, rfl⟩
        case round =>
          obtain ⟨k, hk1, hk2, rfl, ho2, hrow2, hj⟩ := hrel
          have HO2 := hide ho2
          have HR2 := hide hrow2
          have HJ := hide hj
          clear ho2 hrow2 hj h1 h2
          have h1 : wr.cell? ⟨g, i, none⟩ = some (.int .i64 x) := by rw [← HX.out]; exact HR2.out.cell (i := i) (by have := HN.out; omega)
          have h2 := HR2.out.cell (i := k) (by have := HN.out; omega)
          obtain ⟨z, hz⟩ : ∃ z, p.getD k 0 = z := ⟨_, rfl⟩
          rw [hz] at h2
          have HZ := hide hz
          clear hz
          have hkz : (k : Int) < n := by omega
          obtain ⟨k', rfl⟩ : ∃ k', k = k' + 1 := ⟨k - 1, by omega⟩
          by_cases hzx : z < x
          · have hne : k' ≠ i := fun e => by
              subst e
              have e2 := HZ.out
              rw [HY.out] at e2
              subst e2
              have := HXY.out
              omega
            have hki : i + 1 ≤ k' := by omega
            have HZX := hide hzx
            clear hne
            go_wp2_with fail
            go_quiet (fail)
            go_wp2_with fail
            go_roundw
            case rel =>
              refine ⟨k', by omega, hki, by first | rfl | (congr 1; omega), only_drewN HO2.out _, HR2.out, ?_⟩
              rw [HJ.out, scanJ, HZ.out, if_pos HZX.out]
            case measure => simp [intOf]
          · have hd2 : decide (z < x) = false := by simpa using hzx
            have hj2 : scanJ p x (n - 1) = k' + 1 := by rw [HJ.out, scanJ, HZ.out, if_neg hzx]
            have HJ2 := hide hj2
            clear hj2 hzx
            go_wp2_with fail
            go_quiet (fail)
            go_wp2_with fail
            have f1 := HR2.out.frozen i
            have f2 := HR2.out.frozen (k' + 1)
            have hci : ¬ c = i + 1 := by omega
            have hic : (i : Int) + 1 ≤ (n : Int) := by omega
            have hkz2 : (k' : Int) + 1 < n := by omega
            have hik : i < k' + 1 := by omega
            have hv : ((wr.drewN (nq + 1)).setCell ⟨g, i, none⟩ (Value.int IntKind.i64 z)).cell? ⟨g, k' + 1, none⟩ = some (.int .i64 z) := by
              rw [World.cell?_setCell_other _ _ _ _ (fun e => by have := congrArg Addr.off e; simp at this; omega)]
              exact h2
            go_region
            go_wp2_with fail
            have hrow : Row 2 (((wr.drewN (nq + 1)).setCell ⟨g, i, none⟩ (Value.int IntKind.i64 z)).setCell ⟨g, k' + 1, none⟩ (Value.int IntKind.i64 x)) g ((p.set i z).set (k' + 1) x) := ((show Row 2 (wr.drewN (nq + 1)) g p from HR2.out).set i z).set (k' + 1) x
            have HRW := hide hrow
            clear hrow hv
            refine (reverse_any g (i + 1) (n - (i + 1)) (c - (i + 1)) ((p.set i z).set (k' + 1) x) _ (by omega) (by have := HN.out; simp; omega) (by omega) HRW.out).mono ?_
            rintro e w3 ⟨rfl, ho3, hr3⟩
            have HO3 := hide ho3
            have HR3 := hide hr3
            clear ho3 hr3
            go_wp2_with fail
            go_ret
            refine .inr ⟨_, ?_, rfl, ?_, HR3.out⟩
            · have h := HA.out
              rw [HS2.out] at h
              simp only at h
              rw [h, HX.out, HJ2.out]
              unfold advAt
              rw [HX.out, HZ.out]
            · refine only_trans ?_ HO3.out
              have h1 := only_drewN HO2.out (nq + 1)
              exact ⟨h1.os, h1.tape, h1.output, by have := h1.size; simpa [World.setCell] using this, fun a ha hne => (Below.heap_setCell _ _ _ _ (fun e => hne (by rw [e]; rfl))).trans ((Below.heap_setCell _ _ _ _ (fun e => hne (by rw [e]; rfl))).trans (h1.block a ha hne))⟩
end Go.Proofs.Ytkflmhmbkilmpab
namespace Go.Proofs.Ytkflmhmbkilmpab
open Go Go.RowKit
set_option maxHeartbeats 2000000

theorem gsInfo : (Try.prog.info? 2).map (fun i => (i.zero, i.size, i.bytes)) = some (some (.int .i64 0), 1, 8) := by kernel_rfl
theorem gsInfo2 : (Try.prog.info? 33).map (fun i => (i.zero, i.size, i.bytes)) = some (some (.slice none 0 0), 1, 24) := by kernel_rfl
theorem gs_new {w : World} {v : Value} {t : TypeId} : ∀ j u, [v][j]? = some u → (w.alloc (.cells #[v] t)).cell? ((⟨w.heap.size, 0, none⟩ : Addr).add j) = some u := by
  intro j u hj
  match j, hj with
  | 0, hj => simp at hj; subst hj; simp [Addr.add, World.cell?_alloc_new]

/-- What the elements below x have brought. -/
def growTo (n f : Nat) (st : List Int) (x : Nat) : List (List Int) := (List.range x).flatMap fun (y : Nat) => if st.contains (Int.ofNat y) then [] else growS n f (st ++ [Int.ofNat y])
theorem growTo_succ (n f : Nat) (st : List Int) (x : Nat) : growTo n f st (x + 1) = growTo n f st x ++ (if st.contains (Int.ofNat x) then [] else growS n f (st ++ [Int.ofNat x])) := by
  unfold growTo
  rw [List.range_succ, List.flatMap_append]
  simp
theorem growTo_le (n f : Nat) (st : List Int) (x y : Nat) (h : x ≤ y) : (growTo n f st x).length ≤ (growTo n f st y).length := by
  induction y with
  | zero =>
    obtain rfl : x = 0 := by omega
    exact Nat.le_refl _
  | succ y ih =>
    by_cases e : x = y + 1
    · subst e; exact Nat.le_refl _
    · have := ih (by omega)
      rw [growTo_succ, List.length_append]
      omega

/-- What the call leaves: the list, grown. -/
def GrowPost (ts t : TypeId) (B : Nat) (rows : List (List Int)) (w : World) (e : Ending) (w' : World) : Prop :=
  ∃ v' vals', e = .returned v' ∧ KeepT t w w' ∧ Below B w w' ∧ B ≤ w'.heap.size ∧ LstV ts t B w' v' rows vals'

theorem grow_any (B : Nat) (f : Nat) : ∀ (n m c a : Nat) (st : List Int) (v : Value) (rows : List (List Int)) (vals : List Value) (w : World), st.length = m → m + f = n → n ≤ 12 → B ≤ w.heap.size →
    Obj1 2 B w.heap.size w (some ⟨a, 0, none⟩) st → LstV 33 2 B w v rows vals → (∀ (i : Nat) (u : Value) (g : Nat), vals[i]? = some u → u.ownBlock = some g → a ≠ g) → rows.length + (growS n f st).length ≤ 1048576 →
    Calls Try.prog 94 #[.int .i64 n, .slice (some ⟨a, 0, none⟩) m c, v] w (GrowPost 33 2 B (rows ++ growS n f st) w) := by
  induction f with
  | zero =>
    intro n m c a st v rows vals w hst hmn hn hB hobj hlst hdis hle
    obtain ⟨i0, hi, hz0, hz1, hz2⟩ := info_parts gsInfo2
    have hmn' : m = n := by omega
    subst hmn'
    have HST := hide hst
    have HO := hide hobj
    have HL := hide hlst
    have HD := hide hdis
    have hr : rows.length + 1 ≤ 1048576 := by simpa [growS] using hle
    have heq : ((m : Int) == (m : Int)) = true := by simp
    have hal : Below w.heap.size w (w.alloc (.cells #[.slice (some ⟨a, 0, none⟩) m c] 33)) := (Below.refl _ _).alloc (Nat.le_refl _) _
    have HAL := hide hal
    have hown := ownsRow_below HL.out.own hal
    have HOW := hide hown
    clear hst hobj hlst hdis hle hal hown hmn
    go_enter Try.func94, Try.ntmps94
    go_wp2_with (at_builtin; refine wpList_append_own _ rfl _ _ 22 rfl B 33 i0 (.slice none 0 0) 1 24 Try.underlying22 hi hz0 hz1 hz2 rfl (by decide) _ _ _ rfl HOW.out ⟨w.heap.size, 0, none⟩ 1 1 [.slice (some ⟨a, 0, none⟩) m c] rfl rfl ?c1 ?c2 ?c3 ?c4 ?c5 ?_)
    case c1 => exact gs_new
    case c2 => intro u hu; simp at hu; subst hu; rfl
    case c3 => unfold maxLen; omega
    case c4 => omega
    case c5 => simp; omega
    intro v' w1 hown' hgrow _
    have HO' := hide hown'
    have HG := hide hgrow
    clear hown' hgrow
    go_wp2_with fail
    go_ret
    have hB1 : Below B w w1 := (HAL.out.mono hB).grown HG.out (by simp; omega) (fun g hg => (HOW.out.lt g hg).1)
    have hk : KeepT 2 w w1 := (KeepT.of_below HAL.out).trans (KeepT.of_grown (by decide) HOW.out HG.out)
    have hpush := LstV.push2 (tmp := .cells #[.slice (some ⟨a, 0, none⟩) m c] 33) (A := some ⟨a, 0, none⟩) (c := c) (r := st) (w1 := w1) (v' := v') (by decide) HL.out HO.out (fun i u g hu hg b hb => by cases hb; exact HD.out i u g hu hg) (by rw [HST.out]; exact HO'.out) HG.out
    exact ⟨v', _, rfl, hk, hB1, Nat.le_trans hB hB1.size, hpush⟩
  | succ f ih =>
    intro n m c a st v rows vals w hst hmn hn hB hobj hlst hdis hle
    obtain ⟨i1, hi1, hy0, hy1, hy2⟩ := info_parts gsInfo
    have HST := hide hst
    have HO := hide hobj
    have HL := hide hlst
    have heq : ((m : Int) == (n : Int)) = false := by simp; omega
    have hleT : rows.length + (growTo n f st n).length ≤ 1048576 := hle
    have HLE := hide hleT
    have HIH := hide ih
    have hmn' : m < n := by omega
    have HMN := hide hmn
    clear hst hobj hlst hdis hle hleT ih hmn
    go_enter Try.func94, Try.ntmps94
    go_wp2_with fail
    go_loopw [2, 7] (fun v i wr => ∃ (x : Nat) (vals : List Value), x ≤ n ∧ i = .int .i64 x ∧ KeepT 2 w wr ∧ Below B w wr ∧ B ≤ wr.heap.size ∧ w.heap.size ≤ wr.heap.size ∧ LstV 33 2 B wr v (rows ++ growTo n f st x) vals) (fun _ i _ => n - (intOf i).toNat)
    case atStart => exact ⟨0, vals, Nat.zero_le _, rfl, KeepT.refl _ _, Below.refl _ _, hB, Nat.le_refl _, by simpa [growTo] using HL.out⟩
    case round =>
      obtain ⟨x, vals2, hx, rfl, hk, hbe, hBr, hsz, hlst⟩ := hrel
      have HK := hide hk
      have HBE := hide hbe
      have HL2 := hide hlst
      clear hk hbe hlst
      by_cases hlt : x < n
      · have hltz : (x : Int) < n := by omega
        have hst2 := HK.out.obj HO.out
        have HST2 := hide (hst2.mono (Nat.le_refl _) hsz)
        clear hst2
        by_cases hm : (x : Int) ∈ st
        · have HM := hide hm
          clear hm
          go_wp2_with fail
          refine (has_any _ _ _ st _ true _ HST.out (by omega) HST2.out.rd (by simp [HM.out])).mono ?_
          rintro e w2 ⟨rfl, hq2⟩
          have HQ2 := hide hq2
          clear hq2
          go_wp2_with fail
          go_roundw
          case rel =>
            obtain ⟨q, rfl⟩ := HQ2.out
            have e : growTo n f st (x + 1) = growTo n f st x := by
              rw [growTo_succ, if_pos (by rw [List.contains_iff_mem]; exact HM.out), List.append_nil]
            exact ⟨x + 1, vals2, by omega, by go_num, fun k cur h => HK.out k cur h, (HBE.out.trans ((Quiet.of wr q).below B)), hBr, hsz, by rw [e]; exact ⟨HL2.out.own, HL2.out.row, HL2.out.ne⟩⟩
          case measure => simp [intOf]; omega
        · have HM := hide hm
          clear hm
          go_wp2_with fail
          refine (has_any _ _ _ st _ false _ HST.out (by omega) HST2.out.rd (by simp [HM.out])).mono ?_
          rintro e w2 ⟨rfl, hq2⟩
          have HQ2 := hide hq2
          have HST3 := hide (HST2.out.later (hq2.below _))
          have HL3 := hide (HL2.out.later (hq2.below _))
          have hsz2 : wr.heap.size ≤ w2.heap.size := by rw [hq2.size]; exact Nat.le_refl _
          clear hq2
          have hrd := HST3.out.rd
          have hcells : ∀ i, i < st.length → w2.cell? ⟨a, 0 + i, none⟩ = some (.int .i64 (st.getD i 0)) := fun i hi => by
            obtain ⟨b, o, e, _, hc⟩ := hrd (by omega)
            cases e
            exact hc i hi
          have hab : a < w2.heap.size := Nat.lt_of_lt_of_le (HST3.out.bounds _ rfl).2 (by omega)
          have HC := hide hcells
          clear hrd hcells
          go_wp2_with fail
          refine (own_any a 0 m c st _ HST.out (by omega) hab HC.out).mono ?_
          rintro e w3 ⟨v3, rfl, hb3, ho3⟩
          have HB3 := hide hb3
          have HO3 := hide ho3
          have hs3 := hb3.size
          clear hb3 ho3
          go_wp2_with (at_builtin; refine wpList_append_own _ rfl _ _ 33 rfl w2.heap.size 2 i1 (.int .i64 0) 1 8 Try.underlying33 hi1 hy0 hy1 hy2 rfl (by decide) _ _ _ rfl (HO3.out.alloc _) ⟨w3.heap.size, 0, none⟩ 1 1 [.int .i64 (x : Int)] rfl rfl ?c1 ?c2 ?c3 ?c4 ?c5 ?_)
          case c1 => exact gs_new
          case c2 => intro u hu; simp at hu; subst hu; rfl
          case c3 => unfold maxLen; omega
          case c4 => omega
          case c5 => simp; omega
          intro v4 w4 hown' hgrow hnn
          have HO4 := hide hown'
          have HG4 := hide hgrow
          have e4 : ints st ++ [.int .i64 (x : Int)] = ints (st ++ [(x : Int)]) := by simp [ints]
          have hown2 := hown'
          rw [e4] at hown2
          have hB4 : Below w2.heap.size w2 w4 := (HB3.out.alloc (by omega) _).grown HG4.out (by simp; omega) (fun g hg => ((HO3.out.alloc (.cells #[.int .i64 (x : Int)] 2)).lt g hg).1)
          have HB4 := hide hB4
          have hs4 := hB4.size
          obtain ⟨A4, c4, hv4, hres4⟩ := own_shape hown2
          have hobj4 := hres4.obj
          rcases hobj4 with ⟨_, e⟩ | ⟨a4, e, ha4, ha5, hob4⟩
          · simp at e
          · subst e
            have HOB4 : Hid (Obj1 2 w2.heap.size w4.heap.size w4 (some ⟨a4, 0, none⟩) (st ++ [(x : Int)])) := hide (.inr ⟨a4, rfl, ha4, ha5, hob4⟩)
            have HL4 := hide (HL3.out.later HB4.out)
            have HK4 := hide ((KeepT.of_below (t := 2) HB4.out))
            rw [hv4]
            clear hown' hgrow hnn hown2 hB4 hres4 hob4 hv4 e4
            go_wp2_with fail
            have hls : (st ++ [(x : Int)]).length = m + 1 := by have := HST.out; simp; omega
            have hg1 := growTo_succ n f st x
            have hcon : st.contains (Int.ofNat x) = false := by
              have h := HM.out
              cases hc : st.contains (Int.ofNat x)
              · rfl
              · rw [List.contains_iff_mem] at hc
                exact absurd hc h
            rw [hcon] at hg1
            have hg2 := growTo_le n f st (x + 1) n (by omega)
            have hbound : (rows ++ growTo n f st x).length + (growS n f (st ++ [(x : Int)])).length ≤ 1048576 := by
              have h := HLE.out
              have e2 : (growTo n f st (x + 1)).length = (growTo n f st x).length + (growS n f (st ++ [(x : Int)])).length := by
                rw [hg1, List.length_append]
                rfl
              rw [List.length_append]
              omega
            refine (HIH.out n (m + 1) c4 a4 (st ++ [(x : Int)]) u2 (rows ++ growTo n f st x) vals2 w4 hls (by have := HMN.out; omega) hn (by omega) (HOB4.out.mono (by omega) (Nat.le_refl _)) HL4.out (fun i u g hu hg => by have := HL3.out.low i u g hu hg; omega) hbound).mono ?_
            rintro e w5 ⟨v5, vals5, rfl, hk5, hb5, hB5, hl5⟩
            have HK5 := hide hk5
            have HB5 := hide hb5
            have HL5 := hide hl5
            have HG1 := hide hg1
            have hkk : KeepT 2 wr w2 := KeepT.of_below (HQ2.out.below _)
            have HKK := hide hkk
            clear hk5 hb5 hl5 hg1 hg2 hbound hls hcon hkk
            go_wp2_with fail
            go_roundw
            case rel =>
              have e : rows ++ growTo n f st (x + 1) = (rows ++ growTo n f st x) ++ growS n f (st ++ [(x : Int)]) := by
                rw [HG1.out, List.append_assoc]
                rfl
              exact ⟨x + 1, vals5, by omega, by go_num, ((HK.out.trans HKK.out).trans HK4.out).trans HK5.out, ((HBE.out.trans (HQ2.out.below B)).trans (HB4.out.mono (by omega))).trans HB5.out, hB5, by have := HB5.out.size; omega, by rw [e]; exact HL5.out⟩
            case measure => simp [intOf]; omega
      · have hxn : x = n := by omega
        subst hxn
        go_wp2_with fail
        go_ret
        exact ⟨_, vals2, rfl, HK.out, HBE.out, hBr, HL2.out⟩
end Go.Proofs.Ytkflmhmbkilmpab
namespace Go.Proofs.Ytkflmhmbkilmpab
open Go Go.RowKit
set_option maxHeartbeats 2000000

theorem l01Perms_any (n : Nat) (w : World) (h1 : 1 ≤ n) (h7 : n ≤ 7) :
    Calls Try.prog 75 #[.int .i64 n] w fun e w' => ∃ A' c', e = .returned (.slice A' (permsS n).length c') ∧ Below w.heap.size w w' ∧ Obj2 33 2 w.heap.size w'.heap.size w' A' (permsS n) := by
  have HP := hide (perms_all n h1 h7)
  go_enter Try.func75, Try.ntmps75
  go_wp2_with fail
  have hal : Below w.heap.size w ((w.alloc (.cells #[] 2)).alloc (.cells #[] 33)) := ((Below.refl _ _).alloc (Nat.le_refl _) _).alloc (by simp) _
  have HAL := hide hal
  have hlst : LstV 33 2 w.heap.size ((w.alloc (.cells #[] 2)).alloc (.cells #[] 33)) (.slice (some ⟨w.heap.size + 1, 0, none⟩) 0 0) [] [] := by
    have h := LstV.start (w.alloc (.cells #[] 2)) 33 2
    obtain ⟨h1, h2, h3⟩ := h
    obtain ⟨h4, h5⟩ := h1
    refine ⟨⟨h4, ?_⟩, fun i hi => by simp at hi, fun i j u u' g _ hu => by simp at hu⟩
    rcases h5 with ⟨h5, _⟩ | ⟨g, cap, cur, hv, hg, r⟩
    · cases h5
    · exact .inr ⟨g, cap, cur, by simpa using hv, by simp at hg; omega, r⟩
  have HL := hide hlst
  have hob : Obj1 2 w.heap.size ((w.alloc (.cells #[] 2)).alloc (.cells #[] 33)).heap.size ((w.alloc (.cells #[] 2)).alloc (.cells #[] 33)) (some ⟨w.heap.size, 0, none⟩) [] :=
    .inr ⟨w.heap.size, rfl, Nat.le_refl _, by simp; omega, #[], (Below.heap_alloc _ _ _ (by simp)).trans (heap_alloc_new _ _), fun i hi => by simp at hi⟩
  have HO := hide hob
  clear hal hlst hob
  refine (grow_any w.heap.size n n 0 0 w.heap.size [] _ [] [] _ rfl (by omega) (by omega) (by simp; omega) HO.out HL.out (fun i u g hu => by simp at hu) (by have := HP.out.most; show 0 + (permsS n).length ≤ _; omega)).mono ?_
  rintro e w1 ⟨v', vals', rfl, hk, hb, hB, hl⟩
  have HL1 := hide hl
  have HB1 := hide hb
  clear hk hb hl
  go_wp2_with fail
  go_ret
  obtain ⟨A', c', hv, hobj⟩ := HL1.out.shape
  exact ⟨A', c', by rw [show [] ++ growS n n [] = permsS n from rfl] at hv; rw [← hv]; rfl, HAL.out.trans HB1.out, hobj⟩
end Go.Proofs.Ytkflmhmbkilmpab
namespace Go.Proofs.Ytkflmhmbkilmpab
open Go Go.RowKit
/-- A table keeps where its blocks keep. -/
theorem Obj2.keep {ts t : TypeId} {lo hi : Nat} {w w' : World} {A : Option Addr} {rows : List (List Int)} (h : Obj2 ts t lo hi w A rows) (hs : ∀ k, lo ≤ k → k < hi → w'.heap[k]? = w.heap[k]?) : Obj2 ts t lo hi w' A rows := by
  rcases h with h | ⟨g, R, C, e, a, b, ⟨cur, c1, c2⟩, d, f⟩
  · exact .inl h
  · refine .inr ⟨g, R, C, e, a, b, ⟨cur, (hs g a b).trans c1, c2⟩, fun i hi' => ?_, f⟩
    rcases d i hi' with h | ⟨g2, h1, h2, h3, h4⟩
    · exact .inl h
    · exact .inr ⟨g2, h1, h2, h3, h4.of_block (hs g2 h2 h3)⟩
/-- One table is appended to an empty list of tables in block L. -/
theorem app_one {ts t e : TypeId} {w w1 : World} {L lo hi n c : Nat} {A : Option Addr} {rows : List (List Int)} {v' : Value} {tmp : Obj} (hL : L < w.heap.size)
    (hown : w1.ownsRow L e 1 v' (0 + 1) ([] ++ [.slice A n c])) (hg : (w.alloc tmp).grownBy w1 (some L)) (hO : Obj2 ts t lo hi w A rows) (hlo : L < lo) (hhi : hi ≤ w.heap.size) :
    ∃ g cap, v' = .slice (some ⟨g, 0, none⟩) 1 cap ∧ w1.cell? ⟨g, 0, none⟩ = some (.slice A n c) ∧ g < w1.heap.size ∧ Obj2 ts t lo hi w1 A rows ∧ Below L w w1 := by
  obtain ⟨g, cap, hv⟩ := own_form hown
  have hb : v'.ownBlock = some g := by rw [hv]; rfl
  have hc := hown.cells hb 0 (.slice A n c) rfl
  have hlt := (hown.lt g hb).2
  refine ⟨g, cap, hv, by simpa [Addr.add] using hc, hlt, ?_, ?_⟩
  · exact hO.keep fun k h1 h2 => (hg.block k (by simp; omega) (fun e => by injection e with e; omega)).trans (((Below.refl w.heap.size w).alloc (Nat.le_refl _) tmp).block k (by omega))
  · exact ((Below.refl L w).alloc (by omega) tmp).grown hg (by simp; omega) (fun k e => by injection e with e; omega)
end Go.Proofs.Ytkflmhmbkilmpab
namespace Go.Proofs.Ytkflmhmbkilmpab
open Go Go.RowKit
set_option maxHeartbeats 1000000

set_option maxRecDepth 100000 in
theorem befS_any (ba ca bb cb : Nat) (A B : Option Addr) (n c d : Nat) (xs ys : List (List Int)) (w : World) (hn : xs.length = n) (hm : ys.length = n) (hb : n ≤ 1048576) (hxs : ∀ i, i < xs.length → (xs.getD i []).length = n) (hys : ∀ i, i < ys.length → (ys.getD i []).length = n) (ha : w.cell? ⟨ba, 0, none⟩ = some (.slice A n c)) (hbc : w.cell? ⟨bb, 0, none⟩ = some (.slice B n d)) (hx : Rd2 w A xs) (hy : Rd2 w B ys) :
    Calls Try.prog 77 #[.slice (some ⟨ba, 0, none⟩) 1 ca, .slice (some ⟨bb, 0, none⟩) 1 cb] w fun e w' => e = .returned (.bool (lessT xs ys)) ∧ Quiet w w' := by
  have HN := hide hn
  have HM := hide hm
  have HA := hide ha
  have HBB := hide hbc
  clear hn hm ha hbc
  go_enter Try.func77, Try.ntmps77
  go_wp2_with fail
  go_loopw [5] (fun i wr => ∃ q : Nat, q ≤ 1 ∧ i = .int .i64 q ∧ Quiet w wr ∧ (q = 1 → lessT xs ys = false)) (fun i _ => 1 - (intOf i).toNat)
  case atStart => exact ⟨0, Nat.zero_le _, rfl, Quiet.refl w, fun h => by cases h⟩
  case round =>
    obtain ⟨q, hq1, rfl, hq, hfin⟩ := hrel
    have HQ := hide hq
    clear hq
    by_cases hlq : q < 1
    · have hq0 : q = 0 := by omega
      subst hq0
      clear hfin
      have ha2 := (HQ.out.cell ⟨ba, 0, none⟩).trans HA.out
      go_wp2_with fail
      clear ha2
      go_loopw [6] (fun i wi => ∃ k : Nat, k ≤ n ∧ i = .int .i64 k ∧ Quiet w wi ∧ lessT xs ys = lessT (xs.drop k) (ys.drop k)) (fun i _ => n - (intOf i).toNat)
      case atStart => exact ⟨0, Nat.zero_le _, rfl, HQ.out, rfl⟩
      case round =>
        clear HQ
        obtain ⟨k, hk, rfl, hq, hall⟩ := hrel
        have HQ := hide hq
        have HALL := hide hall
        clear hq hall
        by_cases hlt : k < n
        · have ha2 := (HQ.out.cell ⟨ba, 0, none⟩).trans HA.out
          have hb2 := (HQ.out.cell ⟨bb, 0, none⟩).trans HBB.out
          obtain ⟨b, o, rfl, _, hc⟩ := HQ.out.rd2 hx (by have := HN.out; omega)
          obtain ⟨b2, o2, rfl, _, hc2⟩ := HQ.out.rd2 hy (by have := HM.out; omega)
          obtain ⟨A1, c1, h1, r1⟩ := hc k (by have := HN.out; omega)
          obtain ⟨A2, c2, h2, r2⟩ := hc2 k (by have := HM.out; omega)
          have l1 := hxs k (by have := HN.out; omega)
          have l2 := hys k (by have := HM.out; omega)
          have e1 := drop_cons2 xs k (by have := HN.out; omega)
          have e2 := drop_cons2 ys k (by have := HM.out; omega)
          obtain ⟨x, hx⟩ : ∃ x, xs.getD k [] = x := ⟨_, rfl⟩
          obtain ⟨y, hy⟩ : ∃ y, ys.getD k [] = y := ⟨_, rfl⟩
          rw [hx] at h1 e1 r1 l1
          rw [hy] at h2 e2 r2 l2
          rw [l1] at h1
          rw [l2] at h2
          have E1 := hide e1
          have E2 := hide e2
          have L1 := hide l1
          have L2 := hide l2
          have R1 := hide r1
          have R2 := hide r2
          clear hx hy hc hc2 e1 e2 l1 l2 hxs hys r1 r2
          have hltz : (k : Int) < n := by omega
          by_cases hxy : x = y
          · subst hxy
            go_wp2_with fail
            go_quiet ((go_at_call 95; exact quiet_call (same_any _ _ _ _ _ _ x x true _ L1.out L1.out (by omega) (by omega) R1.out R2.out (by simp))))
            go_wp2_with fail
            go_roundw
            case rel =>
              refine ⟨k + 1, by omega, by go_num, HQ.out.drewN _, ?_⟩
              rw [HALL.out, E1.out, E2.out, lessT, if_pos rfl]
            case measure => simp [intOf]; omega
          · have HNE := hide hxy
            clear hxy
            have hres : lessT xs ys = lessL x y := by
              rw [HALL.out, E1.out, E2.out, lessT, if_neg HNE.out]
            have HRES := hide hres
            clear hres
            go_wp2_with fail
            go_quiet ((go_at_call 95; exact quiet_call (same_any _ _ _ _ _ _ x y false _ L1.out L2.out (by omega) (by omega) R1.out R2.out (by simp [HNE.out]))))
            obtain ⟨w5, hw5⟩ : ∃ w5, wr.drewN nq = w5 := ⟨_, rfl⟩
            have a5 : w5.cell? ⟨ba, 0, none⟩ = some (.slice (some ⟨b, o, none⟩) n c) := by subst hw5; exact ha2
            have b5 : w5.cell? ⟨bb, 0, none⟩ = some (.slice (some ⟨b2, o2, none⟩) n d) := by subst hw5; exact hb2
            have h1' : w5.cell? ⟨b, o + k, none⟩ = some (.slice A1 n c1) := by subst hw5; exact h1
            have h2' : w5.cell? ⟨b2, o2 + k, none⟩ = some (.slice A2 n c2) := by subst hw5; exact h2
            have R1' : Hid (Rd w5 A1 x) := hide (by subst hw5; exact R1.out)
            have R2' : Hid (Rd w5 A2 y) := hide (by subst hw5; exact R2.out)
            have HQ5 : Hid (Quiet w w5) := hide (by subst hw5; exact HQ.out.drewN _)
            rw [hw5]
            clear h1 h2 ha2 hb2 hw5
            go_wp2_with fail
            go_quiet ((go_at_call 96; exact quiet_call (less_any _ _ _ _ _ x y _ L1.out L2.out hb R1'.out R2'.out)))
            go_wp2_with fail
            go_ret
            exact ⟨by rw [HRES.out]; rfl, HQ5.out.drewN _⟩
        · have hkn : k = n := by omega
          subst hkn
          have ha2 := (HQ.out.cell ⟨ba, 0, none⟩).trans HA.out
          go_wp2_with fail
          go_roundw
          case rel => exact ⟨1, by omega, by go_num, HQ.out, fun _ => by
            have h := HALL.out
            rw [List.drop_of_length_le (by have := HN.out; omega), List.drop_of_length_le (by have := HM.out; omega)] at h
            rw [h]; rfl⟩
          case measure => simp [intOf]
    · have hq1 : q = 1 := by omega
      subst hq1
      have hf := hfin rfl
      go_wp2_with fail
      go_ret
      exact ⟨rfl, HQ.out⟩
end Go.Proofs.Ytkflmhmbkilmpab
namespace Go.Proofs.Ytkflmhmbkilmpab
open Go Go.RowKit
set_option maxHeartbeats 1000000

def cmp1 (x y : Int) : Int := if x < y then -1 else if y < x then 1 else 0
theorem cmp1_any (x y : Int) (w : World) :
    Calls Try.prog 116 #[.int .i64 x, .int .i64 y] w fun e w' => e = .returned (.int .i64 (cmp1 x y)) ∧ w = w' := by
  have hx : (x != x) = false := by simp
  have hy : (y != y) = false := by simp
  by_cases h1 : x < y
  · have hc : cmp1 x y = -1 := by unfold cmp1; rw [if_pos h1]
    have HC := hide hc
    clear hc
    go_enter Try.func116, Try.ntmps116
    go_wp2
    go_ret
    exact ⟨by rw [HC.out]; rfl, rfl⟩
  · by_cases h2 : y < x
    · have hc : cmp1 x y = 1 := by unfold cmp1; rw [if_neg h1, if_pos h2]
      have HC := hide hc
      clear hc
      go_enter Try.func116, Try.ntmps116
      go_wp2
      go_ret
      exact ⟨by rw [HC.out]; rfl, rfl⟩
    · have hc : cmp1 x y = 0 := by unfold cmp1; rw [if_neg h1, if_neg h2]
      have HC := hide hc
      clear hc
      go_enter Try.func116, Try.ntmps116
      go_wp2
      go_ret
      exact ⟨by rw [HC.out]; rfl, rfl⟩

theorem cmpR_any (A B : Option Addr) (n c d : Nat) (xs ys : List Int) (w : World) (hn : xs.length = n) (hm : ys.length = n) (hb : n ≤ 9223372036854775807) (hx : Rd w A xs) (hy : Rd w B ys) :
    Calls Try.prog 99 #[.slice A n c, .slice B n d] w fun e w' => e = .returned (.int .i64 (cmpL xs ys)) ∧ Quiet w w' := by
  have HN := hide hn
  have HM := hide hm
  clear hn hm
  go_enter Try.func99, Try.ntmps99
  go_wp2_with fail
  go_loopw [11] (fun i wr => ∃ k : Nat, k ≤ n ∧ i = .int .i64 k ∧ Quiet w wr ∧ cmpL xs ys = cmpL (xs.drop k) (ys.drop k)) (fun i _ => n - (intOf i).toNat)
  case atStart => exact ⟨0, Nat.zero_le _, rfl, Quiet.refl w, rfl⟩
  case round =>
    obtain ⟨k, hk, rfl, hq, hall⟩ := hrel
    have HQ := hide hq
    have HALL := hide hall
    clear hq hall
    by_cases hlt : k < n
    · obtain ⟨b, o, rfl, _, hc⟩ := HQ.out.rd hx (by have := HN.out; omega)
      obtain ⟨b2, o2, rfl, _, hc2⟩ := HQ.out.rd hy (by have := HM.out; omega)
      have h1 := hc k (by have := HN.out; omega)
      have h2 := hc2 k (by have := HM.out; omega)
      have e1 := drop_cons xs k (by have := HN.out; omega)
      have e2 := drop_cons ys k (by have := HM.out; omega)
      obtain ⟨x, hx⟩ : ∃ x, xs.getD k 0 = x := ⟨_, rfl⟩
      obtain ⟨y, hy⟩ : ∃ y, ys.getD k 0 = y := ⟨_, rfl⟩
      rw [hx] at h1 e1
      rw [hy] at h2 e2
      have E1 := hide e1
      have E2 := hide e2
      obtain ⟨v, hv⟩ : ∃ v, cmp1 x y = v := ⟨_, rfl⟩
      have HV := hide hv
      clear hx hy hc hc2 e1 e2 hv
      have hltz : (k : Int) < n := by omega
      by_cases hv0 : v = 0
      · have hxy : x = y := by
          have h := HV.out
          unfold cmp1 at h
          split at h
          · omega
          · split at h <;> omega
        have HXY := hide hxy
        subst hv0
        clear hxy
        go_wp2_with fail
        refine (cmp1_any x y _).mono ?_
        rintro e w2 ⟨rfl, rfl⟩
        rw [HV.out]
        go_wp2_with fail
        go_roundw
        case rel =>
          refine ⟨k + 1, by omega, by go_num, HQ.out, ?_⟩
          rw [HALL.out, E1.out, E2.out, cmpL, if_neg (by have := HXY.out; omega), if_neg (by have := HXY.out; omega)]
        case measure => simp [intOf]; omega
      · have hne : (v != 0) = true := by simpa using hv0
        have HV0 := hide hv0
        clear hv0
        go_wp2_with fail
        refine (cmp1_any x y _).mono ?_
        rintro e w2 ⟨rfl, rfl⟩
        rw [HV.out]
        go_wp2_with fail
        go_ret
        have hres : cmpL xs ys = v := by
          rw [HALL.out, E1.out, E2.out, cmpL]
          have h := HV.out
          unfold cmp1 at h
          by_cases h1 : x < y
          · rw [if_pos h1] at h ⊢
            exact h
          · rw [if_neg h1] at h ⊢
            by_cases h2 : y < x
            · rw [if_pos h2] at h ⊢
              exact h
            · rw [if_neg h2] at h
              exact absurd h.symm HV0.out
        exact ⟨by rw [hres]; rfl, HQ.out⟩
    · have hkn : k = n := by omega
      subst hkn
      go_wp2_with fail
      go_ret
      have h := HALL.out
      rw [List.drop_of_length_le (by have := HN.out; omega), List.drop_of_length_le (by have := HM.out; omega)] at h
      exact ⟨by rw [h]; rfl, HQ.out⟩
end Go.Proofs.Ytkflmhmbkilmpab
namespace Go.Proofs.Ytkflmhmbkilmpab
open Go Go.RowKit
set_option maxHeartbeats 1000000

theorem cmpF_any (A B : Option Addr) (n c d : Nat) (xs ys : List (List Int)) (w : World) (hn : xs.length = n) (hm : ys.length = n) (hb : n ≤ 1048576) (hxs : ∀ i, i < xs.length → (xs.getD i []).length = n) (hys : ∀ i, i < ys.length → (ys.getD i []).length = n) (hx : Rd2 w A xs) (hy : Rd2 w B ys) :
    Calls Try.prog 98 #[.slice A n c, .slice B n d, .func (.func 99) #[] #[]] w fun e w' => e = .returned (.int .i64 (cmpT xs ys)) ∧ Quiet w w' := by
  have HN := hide hn
  have HM := hide hm
  clear hn hm
  go_enter Try.func98, Try.ntmps98
  go_wp2_with fail
  go_loopw [13] (fun i wr => ∃ k : Nat, k ≤ n ∧ i = .int .i64 k ∧ Quiet w wr ∧ cmpT xs ys = cmpT (xs.drop k) (ys.drop k)) (fun i _ => n - (intOf i).toNat)
  case atStart => exact ⟨0, Nat.zero_le _, rfl, Quiet.refl w, rfl⟩
  case round =>
    obtain ⟨k, hk, rfl, hq, hall⟩ := hrel
    have HQ := hide hq
    have HALL := hide hall
    clear hq hall
    by_cases hlt : k < n
    · obtain ⟨b, o, rfl, _, hc⟩ := HQ.out.rd2 hx (by have := HN.out; omega)
      obtain ⟨b2, o2, rfl, _, hc2⟩ := HQ.out.rd2 hy (by have := HM.out; omega)
      obtain ⟨A1, c1, h1, r1⟩ := hc k (by have := HN.out; omega)
      obtain ⟨A2, c2, h2, r2⟩ := hc2 k (by have := HM.out; omega)
      have l1 := hxs k (by have := HN.out; omega)
      have l2 := hys k (by have := HM.out; omega)
      have e1 := drop_cons2 xs k (by have := HN.out; omega)
      have e2 := drop_cons2 ys k (by have := HM.out; omega)
      obtain ⟨x, hx⟩ : ∃ x, xs.getD k [] = x := ⟨_, rfl⟩
      obtain ⟨y, hy⟩ : ∃ y, ys.getD k [] = y := ⟨_, rfl⟩
      rw [hx] at h1 e1 r1 l1
      rw [hy] at h2 e2 r2 l2
      rw [l1] at h1
      rw [l2] at h2
      have E1 := hide e1
      have E2 := hide e2
      have L1 := hide l1
      have L2 := hide l2
      obtain ⟨v, hv⟩ : ∃ v, cmpL x y = v := ⟨_, rfl⟩
      have HV := hide hv
      clear hx hy hc hc2 e1 e2 hv l1 l2 hxs hys
      have hltz : (k : Int) < n := by omega
      by_cases hv0 : v = 0
      · subst hv0
        go_wp2_with fail
        refine (cmpR_any _ _ _ _ _ x y _ L1.out L2.out (by omega) r1 r2).mono ?_
        rintro e w2 ⟨rfl, hq2⟩
        have HQ2 := hide hq2
        rw [HV.out]
        clear hq2
        go_wp2_with fail
        go_roundw
        case rel =>
          refine ⟨k + 1, by omega, by go_num, HQ.out.trans HQ2.out, ?_⟩
          rw [HALL.out, E1.out, E2.out, cmpT, if_pos HV.out]
        case measure => simp [intOf]; omega
      · have hne : (v != 0) = true := by simpa using hv0
        have HV0 := hide hv0
        clear hv0
        go_wp2_with fail
        refine (cmpR_any _ _ _ _ _ x y _ L1.out L2.out (by omega) r1 r2).mono ?_
        rintro e w2 ⟨rfl, hq2⟩
        have HQ2 := hide hq2
        rw [HV.out]
        clear hq2
        go_wp2_with fail
        go_ret
        have hres : cmpT xs ys = v := by
          rw [HALL.out, E1.out, E2.out, cmpT, HV.out, if_neg HV0.out]
        exact ⟨by rw [hres]; rfl, HQ.out.trans HQ2.out⟩
    · have hkn : k = n := by omega
      subst hkn
      go_wp2_with fail
      go_ret
      have h := HALL.out
      rw [List.drop_of_length_le (by have := HN.out; omega), List.drop_of_length_le (by have := HM.out; omega)] at h
      exact ⟨by rw [h]; rfl, HQ.out⟩

theorem compareTables_any (A B : Option Addr) (n c d : Nat) (xs ys : List (List Int)) (v : Int) (w : World) (hn : xs.length = n) (hm : ys.length = n) (hb : n ≤ 1048576) (hxs : ∀ i, i < xs.length → (xs.getD i []).length = n) (hys : ∀ i, i < ys.length → (ys.getD i []).length = n) (hx : Rd2 w A xs) (hy : Rd2 w B ys) (hv : cmpT xs ys = v) :
    Calls Try.prog 83 #[.slice A n c, .slice B n d] w fun e w' => e = .returned (.int .i64 v) ∧ Quiet w w' := by
  have HN := hide hn
  have HM := hide hm
  have HV := hide hv
  clear hn hm hv
  go_enter Try.func83, Try.ntmps83
  go_wp2_with fail
  refine (cmpF_any _ _ _ _ _ xs ys _ HN.out HM.out hb hxs hys hx hy).mono ?_
  rintro e w2 ⟨rfl, hq2⟩
  rw [HV.out]
  have HQ2 := hide hq2
  clear hq2
  go_wp2_with fail
  go_ret
  exact ⟨rfl, HQ2.out⟩
end Go.Proofs.Ytkflmhmbkilmpab
namespace Go.Proofs.Ytkflmhmbkilmpab
open Go Go.RowKit
set_option maxHeartbeats 1000000

theorem idInfo : (Try.prog.info? 2).map (fun i => (i.zero, i.size, i.bytes)) = some (some (.int .i64 0), 1, 8) := by kernel_rfl
def unitL (n : Nat) : List Int := (List.range n).map fun (x : Nat) => Int.ofNat x
theorem unitL_length (n : Nat) : (unitL n).length = n := by simp [unitL]
theorem unitL_getD (n k : Nat) (h : k < n) : (unitL n).getD k 0 = (k : Int) := by simp [unitL, h]

theorem identityOf_any (n : Nat) (w : World) (hb : n ≤ 1048576) :
    Calls Try.prog 80 #[.int .i64 n] w fun e w' => e = .returned (.slice (some ⟨w.heap.size, 0, none⟩) n n) ∧ Below w.heap.size w w' ∧ Row 2 w' w.heap.size (unitL n) ∧ w'.heap.size = w.heap.size + 1 := by
  have hmk := run_make_row' (P := Try.prog) 53 2 (.int .i64 0) 8 Try.underlying53 idInfo rfl .i64 .i64 n (by omega) (by omega)
  go_enter Try.func80, Try.ntmps80
  go_wp2_with fail
  clear hmk
  go_loopw [9] (fun i wr => ∃ k : Nat, k ≤ n ∧ i = .int .i64 k ∧ Below w.heap.size w wr ∧ Row 2 wr w.heap.size ((unitL n).take k ++ List.replicate (n - k) 0) ∧ wr.heap.size = w.heap.size + 1) (fun i _ => n - (intOf i).toNat)
  case atStart => exact ⟨0, Nat.zero_le _, rfl, (Below.refl _ _).alloc (Nat.le_refl _) _, by simpa using Row.made 2 w n, by simp⟩
  case round =>
    obtain ⟨k, hk, rfl, hbe, hrow, hsz⟩ := hrel
    have HB := hide hbe
    have HROW := hide hrow
    have HSZ := hide hsz
    clear hbe hrow hsz
    have HU : Hid ((unitL n).length = n) := hide (unitL_length n)
    by_cases hlt : k < n
    · have h2 := HROW.out.cell (i := k) (by have := HU.out; simp; omega)
      have h3 := HROW.out.frozen k
      have hltz : (k : Int) < n := by omega
      go_wp2_with fail
      go_roundw
      case rel =>
        have hst := HROW.out.set k ((unitL n).getD k 0)
        rw [fill_step (unitL n) n k HU.out hlt, unitL_getD n k hlt] at hst
        exact ⟨k + 1, by omega, by go_num, HB.out.setCell (p := ⟨w.heap.size, k, none⟩) (Nat.le_refl _) _, hst, by have := HSZ.out; simpa [World.setCell] using this⟩
      case measure => simp [intOf]; omega
    · have hkn : k = n := by omega
      subst hkn
      go_wp2_with fail
      go_ret
      have h := HROW.out
      have hz := HU.out
      rw [Nat.sub_self, List.replicate_zero, List.append_nil, List.take_of_length_le (by omega)] at h
      exact ⟨rfl, HB.out, h, HSZ.out⟩
end Go.Proofs.Ytkflmhmbkilmpab
namespace Go.Proofs.Ytkflmhmbkilmpab
open Go Go.RowKit
set_option maxHeartbeats 2000000
def tabF (rows : List (List Int)) : Nat → Nat → Int := fun a b => (rows.getD a []).getD b 0

set_option maxRecDepth 100000 in
theorem imageS_any (A : Option Addr) (n c : Nat) (rows : List (List Int)) (D : Option Addr) (d : Nat) (p : List Int) (w : World)
    (hn : rows.length = n) (hm : p.length = n) (h1 : 1 ≤ n) (hb : n ≤ 1048576) (hbs : ∀ i, i < rows.length → (rows.getD i []).length = n) (hin : ∀ i j, i < n → j < n → 0 ≤ (rows.getD i []).getD j 0 ∧ (rows.getD i []).getD j 0 < (n : Int)) (hpin : ∀ x ∈ p, 0 ≤ x ∧ x < (n : Int))
    (hr : Rd2 w A rows) (hp : Rd w D p) :
    Calls Try.prog 76 #[.slice A n c, .slice D n d] w fun e w' => ∃ A' c', e = .returned (.slice A' n c') ∧ Below w.heap.size w w' ∧ Obj2 33 2 w.heap.size w'.heap.size w' A' (grid n (renTo rows p n n (tabF rows))) := by
  obtain ⟨k, hkn0⟩ : ∃ k, n = k := ⟨_, rfl⟩
  subst hkn0
  have HN := hide hn
  have HM := hide hm
  clear hn hm
  go_enter Try.func76, Try.ntmps76
  go_wp2_with fail
  refine (ownk_any A n c rows _ HN.out h1 hb hbs hr).mono ?_
  rintro e wr ⟨A1, c1, rfl, hb1, hobj⟩
  obtain ⟨g, G, rfl, hg1, hg2, hG, htab⟩ := hobj.tabF (by decide) h1 HN.out (fun i hi => hbs i (by have := HN.out; omega))
  have HT := hide htab
  have HHG := hide hG
  have HB := hide hb1
  clear htab hG hobj hb1
  go_wp2_with fail
  obtain ⟨w1, hw1⟩ : ∃ w1 : World, w1 = wr := ⟨_, rfl⟩
  subst hw1
  have HW1 : Hid (Below w.heap.size w w1) := HB
  clear HB
  go_loopw [6] (fun i wr => ∃ x : Nat, x ≤ n ∧ i = .int .i64 x ∧ Below w.heap.size w wr ∧ TabF 33 2 wr g G n (renTo rows p n x (tabF rows)) ∧ wr.heap.size = w1.heap.size) (fun i _ => n - (intOf i).toNat)
  case atStart => exact ⟨0, Nat.zero_le _, rfl, HW1.out, HT.out, rfl⟩
  case round =>
    obtain ⟨x, hx, rfl, hbx, htab, hsx⟩ := hrel
    have HBX := hide hbx
    have HT2 := hide htab
    have HS2 := hide hsx
    clear hbx htab hsx
    by_cases hlx : x < n
    · obtain ⟨b, o, rfl, hbw, hc⟩ := hr (by have := HN.out; omega)
      obtain ⟨Ax, cx, hcell, hrd⟩ := hc x (by have := HN.out; omega)
      have hl := hbs x (by have := HN.out; omega)
      obtain ⟨r, hx'⟩ : ∃ r, r = rows.getD x [] := ⟨_, rfl⟩
      rw [← hx'] at hcell hrd hl
      rw [hl] at hcell
      have HX := hide hx'
      have HL := hide hl
      have HCELL := hide hcell
      obtain ⟨px, hpx, hpxn⟩ := elem_range hpin (i := x) (by have := HM.out; omega)
      have HPX := hide hpx
      obtain ⟨b3, o3, rfl, hbw3, hc3⟩ := hp (by have := HM.out; omega)
      have HC3 := hide hc3
      have HHIN := hide hin
      have HPIN := hide hpin
      have e1 : wr.cell? ⟨b3, o3 + x, none⟩ = some (.int .i64 px) := by rw [← hpx]; exact (HBX.out.cell (p := ⟨b3, o3 + x, none⟩) hbw3).trans (hc3 x (by have := HM.out; omega))
      obtain ⟨C, htop⟩ := HT2.out.top
      have e4 : wr.cell? ⟨g, px, none⟩ = some (.slice (some ⟨G px, 0, none⟩) n (C px)) := htop.cell hpxn
      clear hx' hc hl hcell hbs hpx hc3 hin hpin htop
      have hltz : (x : Int) < n := by omega
      have hpxz : (px : Int) < n := by omega
      go_wp2_with fail
      obtain ⟨wo, rfl⟩ : ∃ wo : World, wo = wr := ⟨_, rfl⟩
      clear e1 e4
      go_loopw [7] (fun i wi => ∃ y : Nat, y ≤ n ∧ i = .int .i64 y ∧ Below w.heap.size w wi ∧ TabF 33 2 wi g G n (renRow rows p x y (renTo rows p n x (tabF rows))) ∧ wi.heap.size = w1.heap.size) (fun i _ => n - (intOf i).toNat)
      case atStart => exact ⟨0, Nat.zero_le _, rfl, HBX.out, HT2.out, HS2.out⟩
      case round =>
        obtain ⟨y, hy, rfl, hti, htabi, hsi⟩ := hrel
        have HTI := hide hti
        have HTB := hide htabi
        have HSI := hide hsi
        clear hti htabi hsi
        by_cases hlty : y < n
        · obtain ⟨b2, o2, rfl, hbw2, hc2⟩ := hrd (by have := HL.out; omega)
          have hv : wr.cell? ⟨b2, o2 + y, none⟩ = some (.int .i64 (r.getD y 0)) := (HTI.out.cell (p := ⟨b2, o2 + y, none⟩) hbw2).trans (hc2 y (by have := HL.out; omega))
          have hrow : wr.cell? ⟨b, o + x, none⟩ = some (.slice (some ⟨b2, o2, none⟩) n cx) := (HTI.out.cell (p := ⟨b, o + x, none⟩) hbw).trans HCELL.out
          have hzr := HHIN.out x y hlx hlty
          rw [← HX.out] at hzr
          obtain ⟨z, hz⟩ := Int.eq_ofNat_of_zero_le hzr.1
          rw [hz] at hv
          have hzn : z < n := by have := hzr.2; omega
          have HZ := hide hz
          obtain ⟨py, hpy, hpyn⟩ := elem_range HPIN.out (i := y) (by have := HM.out; omega)
          have HPY := hide hpy
          obtain ⟨q, hq⟩ : ∃ q, p.getD z 0 = q := ⟨_, rfl⟩
          have HQ := hide hq
          have e1 : wr.cell? ⟨b3, o3 + x, none⟩ = some (.int .i64 px) := by rw [← HPX.out]; exact (HTI.out.cell (p := ⟨b3, o3 + x, none⟩) hbw3).trans (HC3.out x (by have := HM.out; omega))
          obtain ⟨C, htop⟩ := HTB.out.top
          have e4 : wr.cell? ⟨g, px, none⟩ = some (.slice (some ⟨G px, 0, none⟩) n (C px)) := htop.cell hpxn
          clear htop
          have e2 : wr.cell? ⟨b3, o3 + y, none⟩ = some (.int .i64 py) := by rw [← hpy]; exact (HTI.out.cell (p := ⟨b3, o3 + y, none⟩) hbw3).trans (HC3.out y (by have := HM.out; omega))
          have e3 : wr.cell? ⟨b3, o3 + z, none⟩ = some (.int .i64 q) := by rw [← hq]; exact (HTI.out.cell (p := ⟨b3, o3 + z, none⟩) hbw3).trans (HC3.out z (by have := HM.out; omega))
          have e5 := (HTB.out.row px hpxn).cell hpyn
          obtain ⟨old, hold⟩ : ∃ q, renRow rows p x y (renTo rows p n x (tabF rows)) px py = q := ⟨_, rfl⟩
          rw [hold] at e5
          have e6 : wr.frozen? ⟨G px, py, none⟩ = false := (HTB.out.row px hpxn).frozen py
          clear hz hzr hold hc2 hrd hpy hq
          have hltyz : (y : Int) < n := by omega
          have hpyz : (py : Int) < n := by omega
          have hzz : (z : Int) < n := by omega
          go_wp2_with fail
          go_still_tail 21, (by kernel_rfl)
          change wpList _ _ _ _ _ wr.drew
          go_wp2_with fail
          go_roundw
          case rel =>
            have hset := HTB.out.set px py q hpxn
            have hg := HHG.out px hpxn
            refine ⟨y + 1, by omega, by go_num, (HTI.out.setCell (p := ⟨G px, py, none⟩) hg.1 _).drew, ?_, by have := HSI.out; simpa [World.setCell, World.drew] using this⟩
            have h2 : TabF 33 2 ((wr.setCell ⟨G px, py, none⟩ (.int .i64 q)).drew) g G n (fun a b => if a = px ∧ b = py then q else renRow rows p x y (renTo rows p n x (tabF rows)) a b) := ⟨hset.top, hset.row, hset.ne, hset.inj⟩
            refine h2.congr (fun a b _ _ => ?_)
            have e1 : (p.getD x 0).toNat = px := by rw [HPX.out]; simp
            have e2 : (p.getD y 0).toNat = py := by rw [HPY.out]; simp
            have e3 : ((rows.getD x []).getD y 0).toNat = z := by rw [← HX.out, HZ.out]; simp
            simp only [renRow]
            rw [e1, e2, e3, HQ.out]
          case measure => simp [intOf]; omega
        · have hyn : y = n := by omega
          subst hyn
          go_wp2_with fail
          go_roundw
          case rel => exact ⟨x + 1, by omega, by go_num, HTI.out, HTB.out, HSI.out⟩
          case measure => simp [intOf]; omega
    · have hxn : x = n := by omega
      subst hxn
      go_wp2_with fail
      go_ret
      refine ⟨_, _, rfl, HBX.out, ?_⟩
      have e := HN.out
      have hs := HS2.out
      exact HT2.out.obj hg1 (by omega) (fun i hi => by have := HHG.out i hi; omega)
end Go.Proofs.Ytkflmhmbkilmpab
namespace Go.Proofs.Ytkflmhmbkilmpab
open Go Go.RowKit
set_option maxHeartbeats 1000000

theorem ntInfo : (Try.prog.info? 2).map (fun i => (i.zero, i.size, i.bytes)) = some (some (.int .i64 0), 1, 8) := by kernel_rfl
theorem ntInfo2 : (Try.prog.info? 33).map (fun i => (i.zero, i.size, i.bytes)) = some (some (.slice none 0 0), 1, 24) := by kernel_rfl

structure NtRel (w wr : World) (n k : Nat) : Prop where
  below : Below w.heap.size w wr
  size : wr.heap.size = w.heap.size + 1 + k
  top : wr.rowIs w.heap.size 33 n (fun i => if i < k then .slice (some ⟨w.heap.size + 1 + i, 0, none⟩) n n else .slice none 0 0)
  row : ∀ i, i < k → wr.rowIs (w.heap.size + 1 + i) 2 n (fun _ => .int .i64 0)

theorem NtRel.start (w : World) (n : Nat) : NtRel w (w.alloc (.cells (madeCells #[.slice none 0 0] n) 33)) n 0 :=
  ⟨(Below.refl _ _).alloc (Nat.le_refl _) _, by simp, (World.rowIs_made w _ n _).congr (fun j _ => by simp), fun i hi => absurd hi (Nat.not_lt_zero _)⟩

theorem NtRel.step {w wr : World} {n k : Nat} (h : NtRel w wr n k) (_hk : k < n) :
    NtRel w ((wr.alloc (.cells (madeCells #[.int .i64 0] n) 2)).setCell ⟨w.heap.size, k, none⟩ (.slice (some ⟨wr.heap.size, 0, none⟩) n n)) n (k + 1) := by
  have hsz := h.size
  have hnew := World.rowIs_made wr (.int .i64 0) n 2
  rw [hsz] at hnew
  refine ⟨(h.below.alloc (by omega) _).setCell (Nat.le_refl _) _, by simp [World.setCell]; omega, ((h.top.alloc _).set k _).congr (fun j _ => ?_), fun i hi => ?_⟩
  · by_cases e : j = k
    · subst e; rw [if_pos rfl, if_pos (by omega), hsz]
    · rw [if_neg e]
      by_cases hlt : j < k
      · rw [if_pos hlt, if_pos (by omega)]
      · rw [if_neg hlt, if_neg (by omega)]
  · by_cases e : i = k
    · subst e
      exact hnew.setOther (by show w.heap.size + 1 + i ≠ w.heap.size; omega) _
    · exact ((h.row i (by omega)).alloc _).setOther (by show w.heap.size + 1 + i ≠ w.heap.size; omega) _

theorem newTable_any (n : Nat) (w : World) (hb : n ≤ 1048576) :
    Calls Try.prog 79 #[.int .i64 n] w fun e w' => e = .returned (.slice (some ⟨w.heap.size, 0, none⟩) n n) ∧ Below w.heap.size w w' ∧ TabF 33 2 w' w.heap.size (fun i => w.heap.size + 1 + i) n (fun _ _ => 0) ∧ w'.heap.size = w.heap.size + 1 + n := by
  have hmk := run_make_row' (P := Try.prog) 22 33 (.slice none 0 0) 24 Try.underlying22 ntInfo2 rfl .i64 .i64 n (by omega) (by omega)
  have hmk2 := run_make_row' (P := Try.prog) 33 2 (.int .i64 0) 8 Try.underlying33 ntInfo rfl .i64 .i64 n (by omega) (by omega)
  go_enter Try.func79, Try.ntmps79
  go_wp2_with fail
  clear hmk
  go_loopw [9] (fun i wr => ∃ k : Nat, k ≤ n ∧ i = .int .i64 k ∧ NtRel w wr n k) (fun i _ => n - (intOf i).toNat)
  case atStart => exact ⟨0, Nat.zero_le _, rfl, NtRel.start w n⟩
  case round =>
    obtain ⟨k, hk, rfl, hrel⟩ := hrel
    have HR := hide hrel
    clear hrel
    by_cases hlt : k < n
    · have hltz : (k : Int) < n := by omega
      have h1 : ∀ o, (wr.alloc o).cell? ⟨w.heap.size, k, none⟩ = some (.slice none 0 0) := fun o => by
        have := (HR.out.top.alloc o).cell hlt
        simpa using this
      have h2 : ∀ o, (wr.alloc o).frozen? ⟨w.heap.size, k, none⟩ = false := fun o => (HR.out.top.alloc o).frozen k
      go_wp2_with fail
      go_roundw
      case rel => exact ⟨k + 1, by omega, by go_num, HR.out.step hlt⟩
      case measure => simp [intOf]; omega
    · have hkn : k = n := by omega
      subst hkn
      go_wp2_with fail
      go_ret
      have h := HR.out
      exact ⟨rfl, h.below, ⟨⟨fun _ => k, .of_row (h.top.congr (fun j hj => by rw [if_pos hj]))⟩, fun i hi => .of_row (h.row i hi), fun i _ => by omega, fun i j _ _ hne => by omega⟩, h.size⟩
end Go.Proofs.Ytkflmhmbkilmpab
namespace Go.Proofs.Ytkflmhmbkilmpab
open Go Go.RowKit
set_option maxHeartbeats 2000000

set_option maxRecDepth 100000 in
theorem renameInto_gen (g lo hi : Nat) (G : Nat → Nat) (n cu : Nat) (f : Nat → Nat → Int) (A : Option Addr) (c : Nat) (rows : List (List Int)) (D : Option Addr) (d : Nat) (p : List Int) (w0 w : World)
    (hn : rows.length = n) (hm : p.length = n) (hb : n ≤ 1048576) (hbs : ∀ i, i < rows.length → (rows.getD i []).length = n) (hin : ∀ i j, i < n → j < n → 0 ≤ (rows.getD i []).getD j 0 ∧ (rows.getD i []).getD j 0 < (n : Int)) (hpin : ∀ x ∈ p, 0 ≤ x ∧ x < (n : Int))
    (hr : Rd2 w0 A rows) (hp : ∀ w3, Touch lo hi w w3 → Rd w3 D p) (hbe : Below w0.heap.size w0 w) (hlo : w0.heap.size ≤ lo) (hG : ∀ i, i < n → lo ≤ G i ∧ G i < hi) (htab : TabF 33 2 w g G n f) :
    Calls Try.prog 81 #[.slice (some ⟨g, 0, none⟩) n cu, .slice A n c, .slice D n d] w fun e w' => e = .returned (.tuple #[]) ∧ Touch lo hi w w' ∧ TabF 33 2 w' g G n (renTo rows p n n f) ∧ w'.heap.size = w.heap.size := by
  have HN := hide hn
  have HM := hide hm
  have HBE := hide hbe
  have HT := hide htab
  clear hn hm hbe htab
  go_enter Try.func81, Try.ntmps81
  go_wp2_with fail
  go_loopw [12] (fun i wr => ∃ x : Nat, x ≤ n ∧ i = .int .i64 x ∧ Touch lo hi w wr ∧ TabF 33 2 wr g G n (renTo rows p n x f) ∧ wr.heap.size = w.heap.size) (fun i _ => n - (intOf i).toNat)
  case atStart => exact ⟨0, Nat.zero_le _, rfl, Touch.refl _ _ _, HT.out, rfl⟩
  case round =>
    obtain ⟨x, hx, rfl, ht, htab, hsz⟩ := hrel
    have HTC := hide ht
    have HT2 := hide htab
    have HS2 := hide hsz
    clear ht htab hsz
    by_cases hlt : x < n
    · have HB2 : Hid (Below w0.heap.size w0 wr) := hide (HTC.out.below HBE.out HBE.out.size hlo)
      obtain ⟨b, o, rfl, hbw, hc⟩ := hr (by have := HN.out; omega)
      obtain ⟨Ax, cx, hcell, hrd⟩ := hc x (by have := HN.out; omega)
      have hl := hbs x (by have := HN.out; omega)
      obtain ⟨r, hx'⟩ : ∃ r, r = rows.getD x [] := ⟨_, rfl⟩
      rw [← hx'] at hcell hrd hl
      rw [hl] at hcell
      have HX := hide hx'
      have HL := hide hl
      have hcell' : wr.cell? ⟨b, o + x, none⟩ = some (.slice Ax n cx) := (HB2.out.cell (p := ⟨b, o + x, none⟩) hbw).trans hcell
      obtain ⟨px, hpx, hpxn⟩ := elem_range hpin (i := x) (by have := HM.out; omega)
      have HPX := hide hpx
      obtain ⟨b3, o3, rfl, _, _⟩ := hp wr HTC.out (by have := HM.out; omega)
      have HP3 := hide hp
      have HHIN := hide hin
      have HPIN := hide hpin
      have HHG := hide hG
      clear hx' hc hl hcell hbs hpx hp hin hpin hG
      have hltz : (x : Int) < n := by omega
      have hpxz : (px : Int) < n := by omega
      go_wp2_with fail
      obtain ⟨wo, rfl⟩ : ∃ wo : World, wo = wr := ⟨_, rfl⟩
      go_loopw [19] (fun i wi => ∃ y : Nat, y ≤ n ∧ i = .int .i64 y ∧ Touch lo hi w wi ∧ TabF 33 2 wi g G n (renRow rows p x y (renTo rows p n x f)) ∧ wi.heap.size = w.heap.size) (fun i _ => n - (intOf i).toNat)
      case atStart => exact ⟨0, Nat.zero_le _, rfl, HTC.out, HT2.out, HS2.out⟩
      case round =>
        obtain ⟨y, hy, rfl, hti, htabi, hsi⟩ := hrel
        have HTI := hide hti
        have HTB := hide htabi
        have HSI := hide hsi
        clear hti htabi hsi
        by_cases hlty : y < n
        · have HB3 : Hid (Below w0.heap.size w0 wr) := hide (HTI.out.below HBE.out HBE.out.size hlo)
          obtain ⟨b2, o2, rfl, hbw2, hc2⟩ := hrd (by have := HL.out; omega)
          have hv : wr.cell? ⟨b2, o2 + y, none⟩ = some (.int .i64 (r.getD y 0)) := (HB3.out.cell (p := ⟨b2, o2 + y, none⟩) hbw2).trans (hc2 y (by have := HL.out; omega))
          have hzr := HHIN.out x y hlt hlty
          rw [← HX.out] at hzr
          obtain ⟨z, hz⟩ := Int.eq_ofNat_of_zero_le hzr.1
          rw [hz] at hv
          have hzn : z < n := by have := hzr.2; omega
          have HZ := hide hz
          obtain ⟨py, hpy, hpyn⟩ := elem_range HPIN.out (i := y) (by have := HM.out; omega)
          have HPY := hide hpy
          obtain ⟨q, hq⟩ : ∃ q, p.getD z 0 = q := ⟨_, rfl⟩
          have HQ := hide hq
          obtain ⟨b4, o4, e0, _, hc4⟩ := HP3.out wr HTI.out (by have := HM.out; omega)
          cases e0
          have e1 : wr.cell? ⟨b3, o3 + x, none⟩ = some (.int .i64 px) := by rw [← HPX.out]; exact hc4 x (by have := HM.out; omega)
          have e2 : wr.cell? ⟨b3, o3 + y, none⟩ = some (.int .i64 py) := by rw [← hpy]; exact hc4 y (by have := HM.out; omega)
          have e3 : wr.cell? ⟨b3, o3 + z, none⟩ = some (.int .i64 q) := by rw [← hq]; exact hc4 z (by have := HM.out; omega)
          obtain ⟨C, htop⟩ := HTB.out.top
          have e4 : wr.cell? ⟨g, px, none⟩ = some (.slice (some ⟨G px, 0, none⟩) n (C px)) := htop.cell hpxn
          have e5 := (HTB.out.row px hpxn).cell hpyn
          obtain ⟨old, hold⟩ : ∃ q, renRow rows p x y (renTo rows p n x f) px py = q := ⟨_, rfl⟩
          rw [hold] at e5
          have e6 : wr.frozen? ⟨G px, py, none⟩ = false := (HTB.out.row px hpxn).frozen py
          clear hz hzr hold hc2 hrd hcell' htop hpy hq hc4
          have hltyz : (y : Int) < n := by omega
          have hpyz : (py : Int) < n := by omega
          have hzz : (z : Int) < n := by omega
          go_wp2_with fail
          go_still_tail 16, (by kernel_rfl)
          change wpList _ _ _ _ _ wr.drew
          go_wp2_with fail
          go_roundw
          case rel =>
            have hset := HTB.out.set px py q hpxn
            refine ⟨y + 1, by omega, by go_num, ?_, ?_, by have := HSI.out; simpa [World.setCell, World.drew] using this⟩
            · have h1 := HTI.out
              have hg := HHG.out px hpxn
              exact ⟨h1.os, h1.tape, h1.output, by have := h1.size; simpa [World.setCell, World.drew] using this, fun i hi hne => (Below.heap_setCell _ _ _ _ (by show i ≠ G px; omega)).trans (h1.block i hi hne)⟩
            · have h2 : TabF 33 2 ((wr.setCell ⟨G px, py, none⟩ (.int .i64 q)).drew) g G n (fun a b => if a = px ∧ b = py then q else renRow rows p x y (renTo rows p n x f) a b) := ⟨hset.top, hset.row, hset.ne, hset.inj⟩
              refine h2.congr (fun a b _ _ => ?_)
              have e1 : (p.getD x 0).toNat = px := by rw [HPX.out]; simp
              have e2 : (p.getD y 0).toNat = py := by rw [HPY.out]; simp
              have e3 : ((rows.getD x []).getD y 0).toNat = z := by rw [← HX.out, HZ.out]; simp
              simp only [renRow]
              rw [e1, e2, e3, HQ.out]
          case measure => simp [intOf]; omega
        · have hyn : y = n := by omega
          subst hyn
          go_wp2_with fail
          go_roundw
          case rel => exact ⟨x + 1, by omega, by go_num, HTI.out, HTB.out, HSI.out⟩
          case measure => simp [intOf]; omega
    · have hxn : x = n := by omega
      subst hxn
      go_wp2_with fail
      go_end0
      exact ⟨rfl, HTC.out, HT2.out, HS2.out⟩
end Go.Proofs.Ytkflmhmbkilmpab
namespace Go.Proofs.Ytkflmhmbkilmpab
open Go Go.RowKit
set_option maxHeartbeats 4000000

/-- A table in the blocks from lo to hi, these between B and P. -/
def Buf (ts t : TypeId) (B P n : Nat) (wr : World) (g lo hi : Nat) (f : Nat → Nat → Int) : Prop :=
  B ≤ lo ∧ hi ≤ P ∧ lo ≤ g ∧ g < hi ∧ ∃ G : Nat → Nat, (∀ i, i < n → lo ≤ G i ∧ G i < hi) ∧ TabF ts t wr g G n f
theorem Buf.far {ts t : TypeId} {B P n : Nat} {w w' : World} {g lo hi l h : Nat} {f : Nat → Nat → Int} (b : Buf ts t B P n w g lo hi f) (ht : Touch l h w w') (hs : hi ≤ l ∨ h ≤ lo) : Buf ts t B P n w' g lo hi f := by
  obtain ⟨h1, h2, h3, h4, G, hG, htab⟩ := b
  exact ⟨h1, h2, h3, h4, G, hG, htab.far ht (by omega) (fun i hi => by have := hG i hi; omega)⟩
theorem row_touch {t : TypeId} {w w' : World} {g lo hi : Nat} {xs : List Int} (h : Row t w g xs) (hs : g < lo ∨ hi ≤ g) (ht : Touch lo hi w w') : Row t w' g xs := (ht.block g h.lt hs).trans h

theorem leastI_any (A : Option Addr) (n c : Nat) (rows zs : List (List Int)) (code : Int) (k : Nat) (w : World) (hn : rows.length = n) (hb : n ≤ 1048576) (hbs : ∀ i, i < rows.length → (rows.getD i []).length ≤ 1048576) (hx : Rd2 w A rows) (hr : LeastRes rows zs code) (hk : zs.length = k) :
    Calls Try.prog 55 #[.slice A n c] w (TPost 33 2 k zs code w) := by
  have HN := hide hn
  rcases hr with ⟨hp, h7, rfl, rfl⟩ | ⟨hp, h7, rfl, rfl⟩ | ⟨hp, rfl, rfl⟩
  · rw [hn] at h7 hk ⊢
    have hsh := fun q => bestS_shape rows n q hn (fun i hi => by rw [hp.rows i (by omega)]; exact hn)
    have HSH := hide hsh
    have hkn : k = n := by rw [← hk]; exact (hsh _).1
    subst hkn
    have hrl : ∀ i, i < rows.length → (rows.getD i []).length = k := fun i hi => by rw [hp.rows i hi]; exact hn
    have HRL := hide hrl
    have hin : ∀ i j, i < k → j < k → 0 ≤ (rows.getD i []).getD j 0 ∧ (rows.getD i []).getD j 0 < (k : Int) := fun i j hi hj => by have := (hp.2.2 i (by omega)).2 j (by omega); rw [hn] at this; exact this
    have HIN := hide hin
    have h1k : 1 ≤ k := by have := hp.1; omega
    have HP := hide hp
    have HPA := hide (perms_all k h1k h7)
    have HPI := hide (perms_isP k h1k h7)
    have HONE := hide (bestS_one rows k hn h1k h7 (fun i hi => hrl i (by omega)) hin)
    obtain ⟨N, hN⟩ : ∃ N, (permsS k).length = N := ⟨_, rfl⟩
    have HNN := hide hN
    have hNb : N ≤ 5040 := by have := HPA.out.most; omega
    have hNp : 0 < N := by have := HPA.out.pos; omega
    rw [hN]
    clear hn hk hrl hin hp hsh hN
    go_enter Try.func55, Try.ntmps55
    go_wp2_with fail
    refine (isTable_any _ _ _ rows true _ HN.out (by omega) (fun i hi => by have := hbs i hi; omega) hx (by simp [HP.out])).mono ?_
    rintro e w1 ⟨rfl, hq1⟩
    have HQ1 := hide (hq1.below w.heap.size)
    clear hq1
    have h7z : ¬ (7 : Int) < (k : Int) := by omega
    go_wp2_with fail
    refine (newTable_any k _ hb).mono ?_
    rintro e w2 ⟨rfl, hb2, ht2, hs2⟩
    have HB2 := hide (HQ1.out.trans (hb2.mono HQ1.out.size))
    have HT2 := hide ht2
    have S1 := HQ1.out.size
    have S2 := hide hs2
    clear hb2 ht2 hs2
    go_wp2_with fail
    refine (newTable_any k _ hb).mono ?_
    rintro e w3 ⟨rfl, hb3, ht3, hs3⟩
    have HB3 := hide (HB2.out.trans (hb3.mono HB2.out.size))
    have HT23 := hide (HT2.out.later hb3)
    have HT3 := hide ht3
    have S3 := hide hs3
    clear hb3 ht3 hs3
    go_wp2_with fail
    refine (identityOf_any k _ (by omega)).mono ?_
    rintro e w4 ⟨rfl, hb4, hrow4, hs4⟩
    have HB4 := hide (HB3.out.trans (hb4.mono HB3.out.size))
    have HT24 := hide (HT23.out.later hb4)
    have HT34 := hide (HT3.out.later hb4)
    have HR4 := hide hrow4
    have S4 := hide hs4
    clear hb4 hrow4 hs4
    obtain ⟨P, hP⟩ : ∃ P, w3.heap.size = P := ⟨_, rfl⟩
    have HPP := hide hP
    rw [hP] at HR4 ⊢
    clear hP
    have hu0 : (permsS k).getD 0 [] = unitL k := HPA.out.first
    have HU0 := hide hu0
    have hup : ∀ x ∈ unitL k, 0 ≤ x ∧ x < (k : Int) := by rw [← hu0]; exact (HPI.out 0 (by have := HNN.out; omega)).1
    have HUP := hide hup
    clear hu0 hup
    go_wp2_with fail
    refine (renameInto_gen w1.heap.size w1.heap.size w2.heap.size _ k k _ _ _ rows _ _ (unitL k) w w4 HN.out (unitL_length k) hb HRL.out HIN.out HUP.out hx (fun w' ht' => (row_touch HR4.out (.inr (by have := S3.out; have := HPP.out; omega)) ht').rd) HB4.out S1 (fun i hi => by have := S2.out; omega) HT24.out).mono ?_
    rintro e w5 ⟨rfl, ht5, htab5, hs5⟩
    have hpos : 0 < (permsS k).length := by have := HNN.out; omega
    have hbuf : Buf 33 2 w.heap.size P k w5 w1.heap.size w1.heap.size w2.heap.size (renTo rows (unitL k) k k fun _ _ => 0) := ⟨S1, by have := S3.out; have := HPP.out; omega, Nat.le_refl _, by have := S2.out; omega, _, fun i hi => by have := S2.out; omega, htab5⟩
    have hgrid : grid k (renTo rows (unitL k) k k fun _ _ => 0) = bestS rows k 1 := by rw [HONE.out, ← HU0.out]; exact renL_cover rows k 0 _ HN.out h1k h7 hpos
    have hbuf2 : Buf 33 2 w.heap.size P k w5 w2.heap.size w2.heap.size P (fun _ _ => 0) := ⟨by have := S2.out; omega, Nat.le_refl _, Nat.le_refl _, by have := S3.out; have := HPP.out; omega, _, fun i hi => by have := S3.out; have := HPP.out; omega, HT34.out.far ht5 (.inr (Nat.le_refl _)) (fun i hi => .inr (by omega))⟩
    have hrow5 : Row 2 w5 P ((permsS k).getD 0 []) := by rw [HU0.out]; exact row_touch HR4.out (.inr (by have := S3.out; have := HPP.out; omega)) ht5
    have HBF := hide hbuf
    have HGR := hide hgrid
    have HBF2 := hide hbuf2
    have HR5 := hide hrow5
    have HB5 := hide (ht5.below HB4.out HB4.out.size S1)
    have hsP : P < w5.heap.size := by have := S4.out; have := HPP.out; omega
    have hwP : w.heap.size ≤ P := by have := S3.out; have := HPP.out; have := S2.out; omega
    have hdis : w2.heap.size ≤ w2.heap.size ∨ P ≤ w1.heap.size := .inl (Nat.le_refl _)
    clear ht5 htab5 hs5 hpos hbuf hgrid hbuf2 hrow5 HT2 HT23 HT3 HT24 HT34 HR4
    go_wp2_with fail
    go_loopg [4, 5] (N - 1) (fun r v v' wr => ∃ (q g lo hi g' lo' hi' : Nat) (F F' : Nat → Nat → Int), r + q + 1 = N ∧ v = .slice (some ⟨g, 0, none⟩) k k ∧ v' = .slice (some ⟨g', 0, none⟩) k k ∧ Below w.heap.size w wr ∧ Buf 33 2 w.heap.size P k wr g lo hi F ∧ grid k F = bestS rows k (q + 1) ∧ Buf 33 2 w.heap.size P k wr g' lo' hi' F' ∧ (hi ≤ lo' ∨ hi' ≤ lo) ∧ Row 2 wr P ((permsS k).getD q []) ∧ P < wr.heap.size)
    case atStart => exact ⟨0, _, _, _, _, _, _, _, _, by omega, rfl, rfl, HB5.out, HBF.out, HGR.out, HBF2.out, hdis, HR5.out, hsP⟩
    case round =>
      obtain ⟨q, g, lo, hi, g', lo', hi', F, F', hq, rfl, rfl, hbe, hbf, hgr, hbf2, hds, hrow, hsz⟩ := hrel
      have HQ := hide hq
      have HBE := hide hbe
      have HBF := hide hbf
      have HGR := hide hgr
      have HBF2 := hide hbf2
      have HDS := hide hds
      have HRR := hide hrow
      have hqk : q < N := by omega
      clear hq hbe hbf hgr hbf2 hds hrow
      have hlq : ((permsS k).getD q []).length = k := HPA.out.len q (by have := HNN.out; omega)
      have HLQ := hide hlq
      have hnx := HPA.out.next q (by have := HNN.out; omega)
      rw [HNN.out] at hnx
      have HNX := hide hnx
      clear hlq hnx
      go_wp2_with fail
      refine (advance_any P k k ((permsS k).getD q []) _ HLQ.out h1k (Nat.le_refl _) hb HRR.out).mono ?_
      rintro e w6 hpost
      rcases hpost with ⟨hnn, rfl, ho, hrr⟩ | ⟨p', hnn, rfl, ho, hrr⟩
      · have hq1 : ¬ q + 1 < N := fun h => by
          have := HNX.out
          rw [if_pos h, hnn] at this
          cases this
        have hto : Touch P (P + 1) wr w6 := Touch.of_only ho (fun a ha => by cases ha; exact ⟨Nat.le_refl _, Nat.lt_succ_self _⟩)
        have HTO := hide hto
        clear hnn ho hrr hto
        go_wp2_with fail
        go_ret2
        have hqk' : q + 1 = N := by omega
        have h := HBF.out.far HTO.out (.inl HBF.out.2.1)
        obtain ⟨l1, l2, l3, l4, G, hG, htab⟩ := h
        have hob := (htab.obj l3 l4 hG).mono (lo' := w.heap.size) (hi' := w6.heap.size) l1 (by have := HTO.out.size; omega)
        rw [HGR.out, hqk'] at hob
        exact ⟨_, _, rfl, HTO.out.below HBE.out HBE.out.size hwP, hob⟩
      · have hq1 : q + 1 < N := by
          rcases Nat.lt_or_ge (q + 1) N with h | h
          · exact h
          · have := HNX.out
            rw [if_neg (by omega), hnn] at this
            cases this
        have hp' : (permsS k).getD (q + 1) [] = p' := by
          have := HNX.out
          rw [if_pos hq1, hnn] at this
          injection this with h
          exact h.symm
        have hto : Touch P (P + 1) wr w6 := Touch.of_only ho (fun a ha => by cases ha; exact ⟨Nat.le_refl _, Nat.lt_succ_self _⟩)
        have HB6 := hide (hto.below HBE.out HBE.out.size hwP)
        have HBF6 := hide (HBF.out.far hto (.inl HBF.out.2.1))
        have HBF26 := hide (HBF2.out.far hto (.inl HBF2.out.2.1))
        have S6 := hto.size
        have hlp : p'.length = k := by rw [← hp']; exact HPA.out.len (q + 1) (by have := HNN.out; omega)
        have hpin : ∀ x ∈ p', 0 ≤ x ∧ x < (k : Int) := by rw [← hp']; exact (HPI.out (q + 1) (by have := HNN.out; omega)).1
        have hcov : ∀ f, grid k (renTo rows p' k k f) = renL rows p' := fun f => by rw [← hp']; exact renL_cover rows k (q + 1) f HN.out h1k h7 (by have := HNN.out; omega)
        have hbst : bestS rows k (q + 1 + 1) = if lessT (renL rows p') (bestS rows k (q + 1)) then renL rows p' else bestS rows k (q + 1) := by rw [← hp']; rfl
        have HLP := hide hlp
        have HPIN := hide hpin
        have HCOV := hide hcov
        have HBST := hide hbst
        have HPE := hide hp'
        have HR6 := hide hrr
        clear hnn ho hrr hto hlp hpin hcov hbst hp'
        obtain ⟨m1, m2, m3, m4, G', hG', htab'⟩ := HBF26.out
        have HG' := hide hG'
        have HTAB := hide htab'
        clear hG' htab' HBF26 HBF2 HBF
        go_wp2_with fail
        refine (renameInto_gen g' lo' hi' G' k k F' _ _ rows _ _ p' w w6 HN.out HLP.out hb HRL.out HIN.out HPIN.out hx (fun w' ht' => (row_touch HR6.out (.inr m2) ht').rd) HB6.out m1 HG'.out HTAB.out).mono ?_
        rintro e w7 ⟨rfl, ht7, htab7, hs7⟩
        have HB7 := hide (ht7.below HB6.out HB6.out.size m1)
        have HBF7 := hide (HBF6.out.far ht7 HDS.out)
        have HT7 := hide htab7
        have HR7 := hide (row_touch HR6.out (.inr m2) ht7)
        have S7 := ht7.size
        clear ht7 htab7 HBF6
        obtain ⟨v, hv⟩ : ∃ v, cmpT (renL rows p') (bestS rows k (q + 1)) = v := ⟨_, rfl⟩
        have HV := hide hv
        have HRD1 : Hid (Rd2 w7 (some ⟨g', 0, none⟩) (renL rows p')) := hide (by have h := HT7.out.rd; rw [HCOV.out] at h; exact h)
        have HRD2 : Hid (Rd2 w7 (some ⟨g, 0, none⟩) (bestS rows k (q + 1))) := hide (by obtain ⟨_, _, _, _, G, _, ht⟩ := HBF7.out; have h := ht.rd; rw [HGR.out] at h; exact h)
        clear hv
        go_wp2_with fail
        refine (compareTables_any _ _ k _ _ (renL rows p') (bestS rows k (q + 1)) v _ (by rw [renL_length]; exact HN.out) (HSH.out (q + 1)).1 hb (fun i hi => by rw [renL_length] at hi; unfold renL; rw [grid_row_length _ _ _ hi]; exact HN.out) (fun i hi => (HSH.out (q + 1)).2 i (by have := (HSH.out (q + 1)).1; omega)) HRD1.out HRD2.out HV.out).mono ?_
        rintro e w8 ⟨rfl, hq8⟩
        have HB8 := hide (HB7.out.trans (hq8.below _))
        have HBF8 := hide (HBF7.out.far (Touch.quiet (lo := P) (hi := P) hq8) (.inl HBF7.out.2.1))
        have hbuf8 : Buf 33 2 w.heap.size P k w8 g' lo' hi' (renTo rows p' k k F') := ⟨m1, m2, m3, m4, G', HG'.out, HT7.out.far (Touch.quiet (lo := P) (hi := P) hq8) (.inl (by omega)) (fun i hi => .inl (by have := HG'.out i hi; omega))⟩
        have HBU8 := hide hbuf8
        have HR8 := hide (HR7.out.later (hq8.below w7.heap.size) HR7.out.lt)
        have S8 := (hq8.below 0).size
        clear hq8 hbuf8 HRD1 HRD2
        have hneg := cmpT_neg (renL rows p') (bestS rows k (q + 1))
        rw [HV.out] at hneg
        have HNEG := hide hneg
        clear hneg
        have hsz8 : P < w8.heap.size := by omega
        by_cases hv0 : v < 0
        · have hres : bestS rows k (q + 1 + 1) = renL rows p' := by rw [HBST.out, if_pos (HNEG.out.1 hv0)]
          have HRES := hide hres
          clear hres
          go_wp2_with fail
          go_roundg (N - 1 - (q + 1))
          case measure => have := HQ.out; omega
          case rel => exact ⟨q + 1, g', lo', hi', g, lo, hi, _, _, by omega, rfl, rfl, HB8.out, HBU8.out, by rw [HCOV.out, HRES.out], HBF8.out, by have := HDS.out; omega, by rw [HPE.out]; exact HR8.out, hsz8⟩
        · have hres : bestS rows k (q + 1 + 1) = bestS rows k (q + 1) := by rw [HBST.out, if_neg (fun h => hv0 (HNEG.out.2 h))]
          have HRES := hide hres
          clear hres
          go_wp2_with fail
          go_roundg (N - 1 - (q + 1))
          case measure => have := HQ.out; omega
          case rel => exact ⟨q + 1, g, lo, hi, g', lo', hi', _, _, by omega, rfl, rfl, HB8.out, HBF8.out, by rw [HRES.out]; exact HGR.out, HBU8.out, HDS.out, by rw [HPE.out]; exact HR8.out, hsz8⟩
  · obtain rfl : k = 0 := by simpa using hk.symm
    have HP := hide hp
    have h7z : (7 : Int) < (n : Int) := by omega
    clear hn hk hp
    go_enter Try.func55, Try.ntmps55
    go_wp2_with fail
    refine (isTable_any _ _ _ rows true _ HN.out (by omega) (fun i hi => by have := hbs i hi; omega) hx (by simp [HP.out])).mono ?_
    rintro e w1 ⟨rfl, hq1⟩
    have HQ1 := hide (hq1.below w.heap.size)
    clear hq1
    go_wp2_with fail
    go_ret2
    exact ⟨_, _, rfl, HQ1.out, .inl ⟨rfl, rfl⟩⟩
  · obtain rfl : k = 0 := by simpa using hk.symm
    have HP := hide hp
    clear hn hk hp
    go_enter Try.func55, Try.ntmps55
    go_wp2_with fail
    refine (isTable_any _ _ _ rows false _ HN.out (by omega) (fun i hi => by have := hbs i hi; omega) hx (by simp [HP.out])).mono ?_
    rintro e w1 ⟨rfl, hq1⟩
    have HQ1 := hide (hq1.below w.heap.size)
    clear hq1
    go_wp2_with fail
    go_ret2
    exact ⟨_, _, rfl, HQ1.out, .inl ⟨rfl, rfl⟩⟩
end Go.Proofs.Ytkflmhmbkilmpab
namespace Go.Proofs.Ytkflmhmbkilmpab
open Go Go.RowKit
set_option maxHeartbeats 4000000
theorem lkInfo : (Try.prog.info? 22).map (fun i => (i.zero, i.size, i.bytes)) = some (some (.slice none 0 0), 1, 24) := by kernel_rfl

set_option maxRecDepth 100000 in
theorem lstK_any (ba ca : Nat) (A : Option Addr) (n c : Nat) (rows : List (List Int)) (w : World) (hn : rows.length = n) (ht : Tbl rows) (h7 : n ≤ 7) (hcell : w.cell? ⟨ba, 0, none⟩ = some (.slice A n c)) (hba : ba < w.heap.size) (hr : Rd2 w A rows) :
    Calls Try.prog 54 #[.slice (some ⟨ba, 0, none⟩) 1 ca, .bool false] w fun e w' => ∃ go co A' c', e = .returned (.slice (some ⟨go, 0, none⟩) 1 co) ∧ Below w.heap.size w w' ∧ w'.cell? ⟨go, 0, none⟩ = some (.slice A' n c') ∧ Obj2 33 2 w.heap.size w'.heap.size w' A' (bestS rows n (permsS n).length) := by
  have HN := hide hn
  have hrl : ∀ i, i < rows.length → (rows.getD i []).length = n := fun i hi => by rw [ht.rows i hi]; exact hn
  have hsh := fun q => bestS_shape rows n q hn (fun i hi => hrl i (by omega))
  have HSH := hide hsh
  have HRL := hide hrl
  have hin : ∀ i j, i < n → j < n → 0 ≤ (rows.getD i []).getD j 0 ∧ (rows.getD i []).getD j 0 < (n : Int) := fun i j hi hj => by have := (ht.2.2 i (by omega)).2 j (by omega); rw [hn] at this; exact this
  have HIN := hide hin
  have h1n : 1 ≤ n := by have := ht.1; omega
  have HPA := hide (perms_all n h1n h7)
  have HPI := hide (perms_isP n h1n h7)
  have HCV := hide (fun k hk => renL_cover rows n k (tabF rows) hn h1n h7 hk)
  obtain ⟨N, hN⟩ : ∃ N, (permsS n).length = N := ⟨_, rfl⟩
  have HNN := hide hN
  have hNb : N ≤ 5040 := by have := HPA.out.most; omega
  have hNp : 0 < N := by have := HPA.out.pos; omega
  rw [hN]
  have HCELL := hide hcell
  have HR := hide hr
  obtain ⟨i0, hi, hz0, hz1, hz2⟩ := info_parts lkInfo
  clear hn hrl hin ht hsh hN hcell hr
  go_enter Try.func54, Try.ntmps54
  have ha0 := HCELL.out
  go_wp2_with fail
  clear ha0
  refine (l01Perms_any n _ h1n h7).mono ?_
  rintro e w2 ⟨A2, c2, rfl, hb2, hobj2⟩
  rw [HNN.out]
  have HB2 := hide hb2
  have HA2 := hide hobj2.rd
  clear hb2 hobj2
  go_wp2_with fail
  go_loopw [6, 7] (fun v i wr => ∃ (q bb cb : Nat) (A' : Option Addr) (c' : Nat), q ≤ N ∧ i = .int .i64 q ∧ v = .slice (some ⟨bb, 0, none⟩) 1 cb ∧ Below w.heap.size w wr ∧ bb < wr.heap.size ∧ wr.cell? ⟨bb, 0, none⟩ = some (.slice A' n c') ∧ Rd2 wr A' (bestS rows n q) ∧ Rd2 wr A2 (permsS n)) (fun _ i _ => N - (intOf i).toNat)
  case atStart => exact ⟨0, _, _, _, _, Nat.zero_le _, rfl, rfl, HB2.out, Nat.lt_of_lt_of_le hba HB2.out.size, (HB2.out.cell (p := ⟨ba, 0, none⟩) hba).trans HCELL.out, HR.out.later HB2.out, HA2.out⟩
  case round =>
    obtain ⟨q, bb, cb, A', c', hq, rfl, rfl, hbe, hbb, hbc, hbr, hpr⟩ := hrel
    have HB := hide hbe
    have HBC := hide hbc
    have HBR := hide hbr
    have HPR := hide hpr
    clear hbe hbc hbr hpr
    by_cases hlt : q < N
    · have hltz : (q : Int) < N := by omega
      go_wp2_with fail
      obtain ⟨wo, rfl⟩ : ∃ wo : World, wo = wr := ⟨_, rfl⟩
      go_loopw [8, 9] (fun v i wi => Below wo.heap.size wo wi ∧ wo.heap.size < wi.heap.size ∧ ((i = .int .i64 (0 : Nat) ∧ v = .slice (some ⟨wo.heap.size, 0, none⟩) 0 0 ∧ wi.ownsRow wo.heap.size 22 1 (.slice (some ⟨wo.heap.size, 0, none⟩) 0 0) 0 []) ∨
        (i = .int .i64 (1 : Nat) ∧ ∃ bi ci A4 c4, v = .slice (some ⟨bi, 0, none⟩) 1 ci ∧ bi < wi.heap.size ∧ wi.cell? ⟨bi, 0, none⟩ = some (.slice A4 n c4) ∧ Rd2 wi A4 (renL rows ((permsS n).getD q []))))) (fun _ i _ => 1 - (intOf i).toNat)
      case atStart => exact ⟨(Below.refl _ _).alloc (Nat.le_refl _) _, by simp, .inl ⟨rfl, rfl, kq_empty wo _⟩⟩
      case round =>
        obtain ⟨hbi, hsi, hor⟩ := hrel
        have HBI := hide hbi
        clear hbi
        have hlow : w.heap.size ≤ wo.heap.size := HB.out.size
        rcases hor with ⟨rfl, rfl, hown⟩ | ⟨rfl, bi, ci, A4, c4, rfl, hbi2, hcell4, hrd4⟩
        · have HO := hide hown
          clear hown
          have hba2 : ba < wo.heap.size := by omega
          have HA00 := hide ((HB.out.cell (p := ⟨ba, 0, none⟩) hba).trans HCELL.out)
          have ha0 := (HBI.out.cell (p := ⟨ba, 0, none⟩) hba2).trans HA00.out
          obtain ⟨bp, op, hA2e, hbw, hc⟩ := HPR.out (by have := HNN.out; omega)
          subst hA2e
          obtain ⟨A1, c1, hcell1, hr1⟩ := hc q (by have := HNN.out; omega)
          have hl := HPA.out.len q (by have := HNN.out; omega)
          have hpi := HPI.out q (by have := HNN.out; omega)
          have hcv := HCV.out q (by have := HNN.out; omega)
          obtain ⟨p, hpe⟩ : ∃ p, (permsS n).getD q [] = p := ⟨_, rfl⟩
          rw [hpe] at hcell1 hr1 hl hpi hcv ⊢
          rw [hl] at hcell1
          have HC11 := hide hcell1
          replace hcell1 := (HBI.out.cell (p := ⟨bp, op + q, none⟩) hbw).trans HC11.out
          have HL := hide hl
          have HR1 := hide hr1
          have HPI2 := hide hpi.1
          have HC4 := hide hcv
          clear hpe hc hr1 hl hpi hcv
          go_wp2_with fail
          go_region_law (first | (go_simp; go_at_call 76; go_must (refine calls_gen fun wc hwc => ?_; (first | have hbx := drew_below hwc | have hbx := eq_below hwc); replace HBI := hide (HBI.out.trans (hbx.mono HBI.out.size)); replace HO := hide (ownsRow_below HO.out hbx); have hsc := hbx.size; clear hwc hbx; refine (imageS_any _ n _ rows _ _ p _ HN.out HL.out h1n (by omega) HRL.out HIN.out HPI2.out ((HR.out.later HB.out).later HBI.out) (HR1.out.later HBI.out)).mono ?_; rintro e w4 ⟨A4, c4, rfl, hb4, hob4⟩; have HB4 := hide (HBI.out.trans (hb4.mono HBI.out.size)); have hs4 := hb4.size; have HO4 : Hid (w4.ownsRow wo.heap.size 22 1 (.slice (some ⟨wo.heap.size, 0, none⟩) 0 0) 0 []) := hide (ownsRow_below HO.out hb4); have HOB4 := hide hob4; clear hb4 hob4; have ha0 := (HB4.out.cell (p := ⟨ba, 0, none⟩) hba2).trans HA00.out; have hcell1 := (HB4.out.cell (p := ⟨bp, op + q, none⟩) hbw).trans HC11.out)) | (refine step_append_lies _ (by rfl) _ _ _ (by rfl) wo.heap.size 22 i0 _ 1 24 Try.underlying57 hi hz0 hz1 hz2 rfl (by omega) (.slice (some ⟨wo.heap.size, 0, none⟩) 0 0) 0 [] (by rfl) (HO4.out.alloc _) ⟨w4.heap.size, 0, none⟩ 1 1 [.slice A4 n c4] (by rfl) (by rfl) kq_new (by simp [Value.oneCell']) (by omega) (by unfold maxLen; omega) (by omega) (by simp; omega) (w4.heap.size + 1) (by simp) ?_; intro gg cap w5 hown5 hgrow5 hat5 hlt5))
          all_goals
            obtain ⟨g5, cap5, hv5, hcell5, hlt6, hobj5, hb5⟩ := app_one (lo := wc.heap.size) (hi := w4.heap.size) (by omega) hown5 hgrow5 HOB4.out (by omega) (Nat.le_refl _)
            injection hv5 with e51 e52 e53
            injection e51 with e51
            injection e51 with e51
            subst e51
            have HB5 := hide (HB4.out.trans hb5)
            have HC5 := hide hcell5
            have HR5 : Hid (Rd2 w5 A4 (renL rows p)) := hide (by have h := hobj5.rd; rw [HC4.out] at h; exact h)
            have hs5 := hb5.size
            clear hown5 hgrow5 hcell5 hobj5 hb5 ha0 hcell1
            go_wp2_with fail
            go_roundw
            case rel => exact ⟨HB5.out, by omega, .inr ⟨by go_num, _, _, _, _, rfl, hlt6, HC5.out, HR5.out⟩⟩
            case measure => simp [intOf]
        · have HC4 := hide hcell4
          have HR4 := hide hrd4
          clear hcell4 hrd4
          have ha0 := (HBI.out.cell (p := ⟨ba, 0, none⟩) (show ba < wo.heap.size by omega)).trans ((HB.out.cell (p := ⟨ba, 0, none⟩) hba).trans HCELL.out)
          have HB4 := hide (HB.out.trans (HBI.out.mono HB.out.size))
          have HBC4 := hide ((HBI.out.cell (p := ⟨bb, 0, none⟩) hbb).trans HBC.out)
          have HBR4 := hide (HBR.out.later HBI.out)
          have HPR4 := hide (HPR.out.later HBI.out)
          have hbst : bestS rows n (q + 1) = if lessT (renL rows ((permsS n).getD q [])) (bestS rows n q) then renL rows ((permsS n).getD q []) else bestS rows n q := rfl
          obtain ⟨p, hpe⟩ : ∃ p, (permsS n).getD q [] = p := ⟨_, rfl⟩
          rw [hpe] at hbst HR4
          have HBS := hide hbst
          clear hpe hbst
          obtain ⟨bv, hbv⟩ : ∃ bv, lessT (renL rows p) (bestS rows n q) = bv := ⟨_, rfl⟩
          have HBV := hide hbv
          clear hbv
          go_wp2_with fail
          refine (befS_any bi ci bb cb _ _ n _ _ (renL rows p) (bestS rows n q) _ (by rw [renL_length]; exact HN.out) (HSH.out q).1 (by omega) (fun i hi => by rw [renL_length] at hi; unfold renL; rw [grid_row_length _ _ _ hi]; exact HN.out) (fun i hi => (HSH.out q).2 i (by have := (HSH.out q).1; omega)) HC4.out HBC4.out HR4.out HBR4.out).mono ?_
          rintro e w5 ⟨rfl, hq5⟩
          rw [HBV.out]
          have S5 := (hq5.below 0).size
          have HB5 := hide (HB4.out.trans (hq5.below _))
          have HC5 := hide ((hq5.cell ⟨bi, 0, none⟩).trans HC4.out)
          have HBC5 := hide ((hq5.cell ⟨bb, 0, none⟩).trans HBC4.out)
          have HR5 := hide (hq5.rd2 HR4.out)
          have HBR5 := hide (hq5.rd2 HBR4.out)
          have HPR5 := hide (hq5.rd2 HPR4.out)
          clear hq5 ha0
          have hbb5 : bb < w5.heap.size := by omega
          have hbi5 : bi < w5.heap.size := by omega
          cases bv
          · go_wp2_with fail
            go_roundw
            case rel =>
              refine ⟨q + 1, bb, cb, A', c', by omega, by go_num, rfl, HB5.out, hbb5, HBC5.out, ?_, HPR5.out⟩
              rw [HBS.out, HBV.out]
              exact HBR5.out
            case measure => simp [intOf]; omega
          · go_wp2_with fail
            go_roundw
            case rel =>
              refine ⟨q + 1, bi, ci, A4, c4, by omega, by go_num, rfl, HB5.out, hbi5, HC5.out, ?_, HPR5.out⟩
              rw [HBS.out, HBV.out]
              exact HR5.out
            case measure => simp [intOf]; omega
    · have hqN : q = N := by omega
      subst hqN
      go_wp2_with fail
      obtain ⟨wo, rfl⟩ : ∃ wo : World, wo = wr := ⟨_, rfl⟩
      go_loopw [10, 11] (fun v i wi => Below wo.heap.size wo wi ∧ wo.heap.size < wi.heap.size ∧ ((i = .int .i64 (0 : Nat) ∧ v = .slice (some ⟨wo.heap.size, 0, none⟩) 0 0 ∧ wi.ownsRow wo.heap.size 22 1 (.slice (some ⟨wo.heap.size, 0, none⟩) 0 0) 0 []) ∨
        (i = .int .i64 (1 : Nat) ∧ ∃ bi ci A4 c4, v = .slice (some ⟨bi, 0, none⟩) 1 ci ∧ wi.cell? ⟨bi, 0, none⟩ = some (.slice A4 n c4) ∧ Obj2 33 2 w.heap.size wi.heap.size wi A4 (bestS rows n q)))) (fun _ i _ => 1 - (intOf i).toNat)
      case atStart => exact ⟨(Below.refl _ _).alloc (Nat.le_refl _) _, by simp, .inl ⟨rfl, rfl, kq_empty wo _⟩⟩
      case round =>
        obtain ⟨hbi, hsi, hor⟩ := hrel
        have HBI := hide hbi
        clear hbi
        have hlow : w.heap.size ≤ wo.heap.size := HB.out.size
        rcases hor with ⟨rfl, rfl, hown⟩ | ⟨rfl, bi, ci, A4, c4, rfl, hcell4, hobj4⟩
        · have HO := hide hown
          clear hown
          have ha0 := (HBI.out.cell (p := ⟨bb, 0, none⟩) hbb).trans HBC.out
          go_wp2_with fail
          refine (ownk_any _ n _ (bestS rows n q) _ (HSH.out q).1 h1n (by omega) (fun i hi => (HSH.out q).2 i (by have := (HSH.out q).1; omega)) (HBR.out.later HBI.out)).mono ?_
          rintro e w4 ⟨A4, c4, rfl, hb4, hob4⟩
          have HB4 := hide (HBI.out.trans (hb4.mono HBI.out.size))
          have hs4 := hb4.size
          have HO4 : Hid (w4.ownsRow wo.heap.size 22 1 (.slice (some ⟨wo.heap.size, 0, none⟩) 0 0) 0 []) := hide (ownsRow_below HO.out hb4)
          have HOB4 := hide hob4
          clear hb4 hob4 ha0
          go_wp2_with (at_builtin; refine wpList_append_own _ rfl _ _ 57 rfl wo.heap.size 22 i0 (.slice none 0 0) 1 24 Try.underlying57 hi hz0 hz1 hz2 rfl (by decide) _ _ _ rfl (HO4.out.alloc _) ⟨w4.heap.size, 0, none⟩ 1 1 [.slice A4 n c4] rfl rfl ?c1 ?c2 ?c3 ?c4 ?c5 ?_)
          case c1 => exact kq_new
          case c2 => intro u hu; simp at hu; subst hu; rfl
          case c3 => unfold maxLen; omega
          case c4 => omega
          case c5 => simp; omega
          intro v' w5 hown' hgrow _
          obtain ⟨g5, cap5, hv5, hcell5, hlt5, hobj5, hb5⟩ := app_one (lo := wr.heap.size) (hi := w4.heap.size) (by omega) hown' hgrow HOB4.out (by omega) (Nat.le_refl _)
          subst hv5
          have HB5 := hide (HB4.out.trans hb5)
          have HC5 := hide hcell5
          have hs5 := hb5.size
          have HR5 := hide (hobj5.mono (lo' := w.heap.size) (hi' := w5.heap.size) (by omega) hs5)
          clear hown' hgrow hcell5 hobj5 hb5
          go_wp2_with fail
          go_roundw
          case rel => exact ⟨HB5.out, by omega, .inr ⟨by go_num, _, _, _, _, rfl, HC5.out, HR5.out⟩⟩
          case measure => simp [intOf]
        · have HC4 := hide hcell4
          have HO4 := hide hobj4
          have HB4 := hide (HB.out.trans (HBI.out.mono HB.out.size))
          clear hcell4 hobj4
          go_wp2_with fail
          go_ret
          exact ⟨_, _, _, _, rfl, HB4.out, HC4.out, HO4.out⟩
end Go.Proofs.Ytkflmhmbkilmpab
namespace Go.Proofs.Ytkflmhmbkilmpab
open Go Go.RowKit
def LrRes (f zs : List (List Int)) (code : Int) : Prop := (Rck f ∧ f.length ≤ 7 ∧ zs = bestS f f.length (permsS f.length).length ∧ code = 0) ∨ (Rck f ∧ 7 < f.length ∧ zs = [] ∧ code = 3) ∨ (¬ Rck f ∧ zs = [] ∧ code = 1)
theorem LrRes.ex (f : List (List Int)) : ∃ zs code, LrRes f zs code ∧ zs.length ≤ 1048576 ∧ ∀ i, i < zs.length → (zs.getD i []).length ≤ 1048576 := by
  by_cases h : Rck f
  · have h12 := h.tbl.2.1
    by_cases h7 : f.length ≤ 7
    · have hs := bestS_shape f f.length (permsS f.length).length rfl (fun i hi => h.tbl.rows i hi)
      exact ⟨_, _, .inl ⟨h, h7, rfl, rfl⟩, by rw [hs.1]; omega, fun i hi => by rw [hs.1] at hi; rw [hs.2 i hi]; omega⟩
    · exact ⟨_, _, .inr (.inl ⟨h, by omega, rfl, rfl⟩), by simp, by simp⟩
  · exact ⟨_, _, .inr (.inr ⟨h, rfl, rfl⟩), by simp, by simp⟩
end Go.Proofs.Ytkflmhmbkilmpab
namespace Go.Proofs.Ytkflmhmbkilmpab
open Go Go.RowKit
set_option maxHeartbeats 1000000

theorem ksize_any (A : Option Addr) (n c : Nat) (w : World) (_hn : n ≤ 1048576) :
    Calls Try.prog 73 #[.agg #[.slice A n c]] w fun e w' => e = .returned (.int .i64 n) ∧ Below w.heap.size w w' := by
  have HB0 := hide ((Below.refl _ w).alloc (Nat.le_refl _) (Obj.cells #[Value.slice A n c] 26))
  go_enter Try.func73, Try.ntmps73
  go_wp2_with fail
  go_ret
  exact ⟨rfl, HB0.out⟩

theorem act_any (A : Option Addr) (n c : Nat) (f : List (List Int)) (x y u : Nat) (w : World) (hn : f.length = n) (ht : Tbl f) (hr : Rd2 w A f) (hx : x < n) (hy : y < n) (hu : ap f x y = u) :
    Calls Try.prog 74 #[.agg #[.slice A n c], .int .i64 x, .int .i64 y] w fun e w' => e = .returned (.int .i64 u) ∧ Below w.heap.size w w' := by
  have h12 : n ≤ 12 := by rw [← hn]; exact ht.2.1
  obtain ⟨b, o, rfl, hb, hc⟩ := ht.cells hr hn
  obtain ⟨bx, ox, cx, h1, h2, h3⟩ := hc x hx
  have h4 := h3 y hy
  rw [hu] at h4
  have hbb := ((Below.refl _ w).alloc (Nat.le_refl _) (Obj.cells #[Value.slice (some ⟨b, o, none⟩) n c] 26))
  have HB0 := hide hbb
  have a4 := (hbb.cell (p := ⟨b, o + x, none⟩) hb).trans h1
  have a6 := (hbb.cell (p := ⟨bx, ox + y, none⟩) h2).trans h4
  have hxz : (x : Int) < n := by omega
  have hyz : (y : Int) < n := by omega
  have hxz0 : (0 : Int) ≤ x := by omega
  have hyz0 : (0 : Int) ≤ y := by omega
  clear hbb h1 h3 h4 hc hu hr ht hn
  go_enter Try.func74, Try.ntmps74
  go_wp2_with fail
  go_ret
  exact ⟨rfl, HB0.out⟩
end Go.Proofs.Ytkflmhmbkilmpab
namespace Go.Proofs.Ytkflmhmbkilmpab
open Go Go.RowKit
set_option maxHeartbeats 2000000
/-- Whether three elements show that a table is no rack's. -/
def rkq (f : List (List Int)) : Nat → Nat → Nat → Bool := fun x y z => !decide (ap f x (ap f y z) = ap f (ap f x y) (ap f x z))
theorem rkq_not (f : List (List Int)) (n i : Nat) : qAt (rkq f) n i = false ↔ Rk3 f n i := by
  unfold qAt rkq Rk3
  simp
theorem rkq_is (f : List (List Int)) (n i : Nat) : qAt (rkq f) n i = true ↔ ¬ Rk3 f n i := by
  rw [← rkq_not]
  simp
theorem FirstK.q {f : List (List Int)} {n T : Nat} (h : FirstK f n T) : FirstQ (rkq f) n T :=
  ⟨fun i hi => (rkq_not f n i).2 (h.1 i hi), h.2.1, fun ht => (rkq_is f n T).2 (h.2.2 ht)⟩

set_option maxRecDepth 100000 in
theorem kfC_any (A : Option Addr) (n c : Nat) (f : List (List Int)) (b : Nat) (w : World) (hn : f.length = n) (ht : Tbl f) (hr : Rd2 w A f) (hk : Blk w b 26 [.slice A n c]) :
    BoolFn3 Try.prog 93 #[.pointer (some ⟨b, 0, none⟩)] n (rkq f) w := by
  intro W x y z hx hy hz hb
  have HR := hide (hr.later hb)
  have HKc := hide (hk.later hb)
  have HBc := hide (Below.refl W.heap.size W)
  have HN := hide hn
  have HTB := hide ht
  show Calls Try.prog 93 #[.int .i64 x, .int .i64 y, .int .i64 z, .pointer (some ⟨b, 0, none⟩)] W _
  clear hn ht hr hk hb
  have hq1 := HTB.out.ap_lt HN.out hy hz
  have hq2 := HTB.out.ap_lt HN.out hx hy
  have hq3 := HTB.out.ap_lt HN.out hx hz
  obtain ⟨bq, hat⟩ : ∃ bq, rkq f x y z = bq := ⟨_, rfl⟩
  rw [hat]
  unfold rkq at hat
  obtain ⟨q1, h_1⟩ : ∃ u, ap f y z = u := ⟨_, rfl⟩
  obtain ⟨q2, h_2⟩ : ∃ u, ap f x y = u := ⟨_, rfl⟩
  obtain ⟨q3, h_3⟩ : ∃ u, ap f x z = u := ⟨_, rfl⟩
  rw [h_1, h_2, h_3] at hat
  rw [h_1] at hq1
  rw [h_2] at hq2
  rw [h_3] at hq3
  obtain ⟨q4, h_4⟩ : ∃ u, ap f x q1 = u := ⟨_, rfl⟩
  obtain ⟨q5, h_5⟩ : ∃ u, ap f q2 q3 = u := ⟨_, rfl⟩
  rw [h_4, h_5] at hat
  have HAT : Hid ((!decide (q4 = q5)) = bq) := hide hat
  have U1 := hide h_1
  have U2 := hide h_2
  have U3 := hide h_3
  have U4 := hide h_4
  have U5 := hide h_5
  clear h_1 h_2 h_3 h_4 h_5 hat
  have k0 := HKc.out.cell 0 _ rfl
  have tok0 : True := trivial
  have tok1 : True := trivial
  have tok2 : True := trivial
  have tok3 : True := trivial
  go_enter Try.func93, Try.ntmps93
  by_cases hcs : q4 = q5
  · have hbq : bq = false := by rw [← HAT.out, hcs]; simp
    subst hcs
    subst hbq
    go_wp2_with fail
    go_region_held3 (fun w' => w'.cell? ⟨b, 0, none⟩ = some (.slice A n c)) (first | exact k0 | go_keep) (first | (go_at_call 74; have _t := tok0; clear _t tok0; go_must (refine calls_gen fun wc hwc => ?_; (first | have hbx := drew_below hwc | have hbx := eq_below hwc); replace HBc := hide (HBc.out.trans (hbx.mono HBc.out.size)); replace HKc := hide (HKc.out.later hbx); clear hwc hbx; refine (act_any _ _ _ f y z q1 _ HN.out HTB.out (HR.out.later HBc.out) hy hz U1.out).mono ?_; rintro e wd ⟨rfl, hbd⟩; replace HBc := hide (HBc.out.trans (hbd.mono HBc.out.size)); replace HKc := hide (HKc.out.later hbd); clear hbd; have k0 := HKc.out.cell 0 _ rfl)) | (go_at_call 74; have _t := tok1; clear _t tok1; go_must (refine calls_gen fun wc hwc => ?_; (first | have hbx := drew_below hwc | have hbx := eq_below hwc); replace HBc := hide (HBc.out.trans (hbx.mono HBc.out.size)); replace HKc := hide (HKc.out.later hbx); clear hwc hbx; refine (act_any _ _ _ f x q1 q4 _ HN.out HTB.out (HR.out.later HBc.out) hx hq1 U4.out).mono ?_; rintro e wd ⟨rfl, hbd⟩; replace HBc := hide (HBc.out.trans (hbd.mono HBc.out.size)); replace HKc := hide (HKc.out.later hbd); clear hbd; have k0 := HKc.out.cell 0 _ rfl)) | (go_at_call 74; have _t := tok2; clear _t tok2; go_must (refine calls_gen fun wc hwc => ?_; (first | have hbx := drew_below hwc | have hbx := eq_below hwc); replace HBc := hide (HBc.out.trans (hbx.mono HBc.out.size)); replace HKc := hide (HKc.out.later hbx); clear hwc hbx; refine (act_any _ _ _ f x y q2 _ HN.out HTB.out (HR.out.later HBc.out) hx hy U2.out).mono ?_; rintro e wd ⟨rfl, hbd⟩; replace HBc := hide (HBc.out.trans (hbd.mono HBc.out.size)); replace HKc := hide (HKc.out.later hbd); clear hbd; have k0 := HKc.out.cell 0 _ rfl)) | (go_at_call 74; have _t := tok3; clear _t tok3; go_must (refine calls_gen fun wc hwc => ?_; (first | have hbx := drew_below hwc | have hbx := eq_below hwc); replace HBc := hide (HBc.out.trans (hbx.mono HBc.out.size)); replace HKc := hide (HKc.out.later hbx); clear hwc hbx; refine (act_any _ _ _ f x z q3 _ HN.out HTB.out (HR.out.later HBc.out) hx hz U3.out).mono ?_; rintro e wd ⟨rfl, hbd⟩; replace HBc := hide (HBc.out.trans (hbd.mono HBc.out.size)); replace HKc := hide (HKc.out.later hbd); clear hbd; have k0 := HKc.out.cell 0 _ rfl)) | (go_at_call 74; go_must (refine calls_gen fun wc hwc => ?_; (first | have hbx := drew_below hwc | have hbx := eq_below hwc); replace HBc := hide (HBc.out.trans (hbx.mono HBc.out.size)); replace HKc := hide (HKc.out.later hbx); clear hwc hbx; refine (act_any _ _ _ f q2 q3 q4 _ HN.out HTB.out (HR.out.later HBc.out) hq2 hq3 U5.out).mono ?_; rintro e wd ⟨rfl, hbd⟩; replace HBc := hide (HBc.out.trans (hbd.mono HBc.out.size)); replace HKc := hide (HKc.out.later hbd); clear hbd; have k0 := HKc.out.cell 0 _ rfl)))
    go_wp2_with fail
    go_ret
    exact ⟨rfl, HBc.out⟩
  · have hbq : bq = true := by rw [← HAT.out]; simp [hcs]
    have hcz : ((q4 : Int) != (q5 : Int)) = true := by rw [bne_iff_ne]; omega
    subst hbq
    go_wp2_with fail
    go_region_held3 (fun w' => w'.cell? ⟨b, 0, none⟩ = some (.slice A n c)) (first | exact k0 | go_keep) (first | (go_at_call 74; have _t := tok0; clear _t tok0; go_must (refine calls_gen fun wc hwc => ?_; (first | have hbx := drew_below hwc | have hbx := eq_below hwc); replace HBc := hide (HBc.out.trans (hbx.mono HBc.out.size)); replace HKc := hide (HKc.out.later hbx); clear hwc hbx; refine (act_any _ _ _ f y z q1 _ HN.out HTB.out (HR.out.later HBc.out) hy hz U1.out).mono ?_; rintro e wd ⟨rfl, hbd⟩; replace HBc := hide (HBc.out.trans (hbd.mono HBc.out.size)); replace HKc := hide (HKc.out.later hbd); clear hbd; have k0 := HKc.out.cell 0 _ rfl)) | (go_at_call 74; have _t := tok1; clear _t tok1; go_must (refine calls_gen fun wc hwc => ?_; (first | have hbx := drew_below hwc | have hbx := eq_below hwc); replace HBc := hide (HBc.out.trans (hbx.mono HBc.out.size)); replace HKc := hide (HKc.out.later hbx); clear hwc hbx; refine (act_any _ _ _ f x q1 q4 _ HN.out HTB.out (HR.out.later HBc.out) hx hq1 U4.out).mono ?_; rintro e wd ⟨rfl, hbd⟩; replace HBc := hide (HBc.out.trans (hbd.mono HBc.out.size)); replace HKc := hide (HKc.out.later hbd); clear hbd; have k0 := HKc.out.cell 0 _ rfl)) | (go_at_call 74; have _t := tok2; clear _t tok2; go_must (refine calls_gen fun wc hwc => ?_; (first | have hbx := drew_below hwc | have hbx := eq_below hwc); replace HBc := hide (HBc.out.trans (hbx.mono HBc.out.size)); replace HKc := hide (HKc.out.later hbx); clear hwc hbx; refine (act_any _ _ _ f x y q2 _ HN.out HTB.out (HR.out.later HBc.out) hx hy U2.out).mono ?_; rintro e wd ⟨rfl, hbd⟩; replace HBc := hide (HBc.out.trans (hbd.mono HBc.out.size)); replace HKc := hide (HKc.out.later hbd); clear hbd; have k0 := HKc.out.cell 0 _ rfl)) | (go_at_call 74; have _t := tok3; clear _t tok3; go_must (refine calls_gen fun wc hwc => ?_; (first | have hbx := drew_below hwc | have hbx := eq_below hwc); replace HBc := hide (HBc.out.trans (hbx.mono HBc.out.size)); replace HKc := hide (HKc.out.later hbx); clear hwc hbx; refine (act_any _ _ _ f x z q3 _ HN.out HTB.out (HR.out.later HBc.out) hx hz U3.out).mono ?_; rintro e wd ⟨rfl, hbd⟩; replace HBc := hide (HBc.out.trans (hbd.mono HBc.out.size)); replace HKc := hide (HKc.out.later hbd); clear hbd; have k0 := HKc.out.cell 0 _ rfl)) | (go_at_call 74; go_must (refine calls_gen fun wc hwc => ?_; (first | have hbx := drew_below hwc | have hbx := eq_below hwc); replace HBc := hide (HBc.out.trans (hbx.mono HBc.out.size)); replace HKc := hide (HKc.out.later hbx); clear hwc hbx; refine (act_any _ _ _ f q2 q3 q5 _ HN.out HTB.out (HR.out.later HBc.out) hq2 hq3 U5.out).mono ?_; rintro e wd ⟨rfl, hbd⟩; replace HBc := hide (HBc.out.trans (hbd.mono HBc.out.size)); replace HKc := hide (HKc.out.later hbd); clear hbd; have k0 := HKc.out.cell 0 _ rfl)))
    go_wp2_with fail
    go_ret
    exact ⟨rfl, HBc.out⟩

set_option maxRecDepth 100000 in
theorem kfaultQ_any (A : Option Addr) (n c : Nat) (f : List (List Int)) (T : Nat) (w : World) (hn : f.length = n) (ht : Tbl f) (hr : Rd2 w A f) (hT : FirstQ (rkq f) n T) :
    Calls Try.prog 72 #[.agg #[.slice A n c]] w fun e w' => (T = n * n * n ∧ e = .returned (.slice none 0 0) ∧ Below w.heap.size w w') ∨ (T < n * n * n ∧ ∃ g, e = .returned (.slice (some ⟨g, 0, none⟩) 3 3) ∧ Below w.heap.size w w' ∧ w.heap.size ≤ g ∧ OwnB 2 w' g (lst3 (trip n T))) := by
  have h1 : 1 ≤ n := by rw [← hn]; exact ht.1
  have h12 : n ≤ 12 := by rw [← hn]; exact ht.2.1
  have HN := hide hn
  have HTB := hide ht
  have HR := hide hr
  have HT := hide hT
  have HB0 := hide ((Below.refl _ w).alloc (Nat.le_refl _) (Obj.cells #[Value.slice A n c] 26))
  have HK0 := hide (Blk.new w 26 [.slice A n c])
  clear hn ht hr hT
  go_enter Try.func72, Try.ntmps72
  go_wp2_with fail
  refine (ksize_any _ _ _ _ (by omega)).mono ?_
  rintro e w2 ⟨rfl, hb2⟩
  have HB2 := hide (HB0.out.trans (hb2.mono HB0.out.size))
  have HK2 := hide (HK0.out.later hb2)
  clear hb2
  go_wp2_with fail
  refine (firstTriple_any 93 _ n (rkq f) T _ (fun _ _ => rfl) h1 h12 (kfC_any A n c f w.heap.size _ HN.out HTB.out (HR.out.later HB2.out) HK2.out) HT.out).mono ?_
  rintro e w3 (⟨hTe, rfl, hb3⟩ | ⟨hTl, g, rfl, hb3, hg, hob⟩)
  · have HB3 := hide (HB2.out.trans (hb3.mono HB2.out.size))
    clear hb3
    go_wp2_with fail
    go_ret
    exact .inl ⟨hTe, rfl, HB3.out⟩
  · have HB3 := hide (HB2.out.trans (hb3.mono HB2.out.size))
    have HO3 := hide hob
    have hlo : w.heap.size ≤ g := by have := HB2.out.size; omega
    clear hb3 hob
    go_wp2_with fail
    go_ret
    exact .inr ⟨hTl, _, rfl, HB3.out, hlo, HO3.out⟩

theorem kfault_any (A : Option Addr) (n c : Nat) (f : List (List Int)) (T : Nat) (w : World) (hn : f.length = n) (ht : Tbl f) (hr : Rd2 w A f) (hT : FirstK f n T) :
    Calls Try.prog 72 #[.agg #[.slice A n c]] w fun e w' => (T = n * n * n ∧ e = .returned (.slice none 0 0) ∧ Below w.heap.size w w') ∨ (T < n * n * n ∧ ∃ g, e = .returned (.slice (some ⟨g, 0, none⟩) 3 3) ∧ Below w.heap.size w w' ∧ w.heap.size ≤ g ∧ OwnB 2 w' g (lst3 (trip n T))) :=
  kfaultQ_any A n c f T w hn ht hr hT.q
end Go.Proofs.Ytkflmhmbkilmpab
namespace Go.Proofs.Ytkflmhmbkilmpab
open Go Go.RowKit
set_option maxHeartbeats 2000000

set_option maxRecDepth 100000 in
theorem isRackI (A : Option Addr) (n c : Nat) (f : List (List Int)) (r : Bool) (w : World) (hn : f.length = n) (hb : n ≤ 1048576) (hbs : ∀ i, i < f.length → (f.getD i []).length ≤ 1048576) (hr : Rd2 w A f) (hres : RkRes f r) :
    Calls Try.prog 43 #[.agg #[.slice A n c]] w fun e w' => e = .returned (.bool r) ∧ Below w.heap.size w w' := by
  have HN := hide hn
  have HBS := hide hbs
  have HRD := hide hr
  have HR := hide hres
  have hnil : ∀ (u : World) (a : Option Addr) (n c : Nat), (binOp .eql 33 (.slice a n c) (.slice none 0 0)).run Try.prog u = .ok (.bool a.isNone) u := fun u a n c => Lib.run_eql_slice_nil u 33 _ a n c 0 0 Try.underlying33
  have HB0 := hide ((Below.refl _ w).alloc (Nat.le_refl _) (Obj.cells #[Value.slice A n c] 26))
  have HK0 := hide (Blk.new w 26 [.slice A n c])
  by_cases ht : Tbl f
  · have HTB := hide ht
    have hTm : ∃ T, FirstK f n T := FirstK.ex f n
    by_cases hp : AllPrm f
    · have HP := hide hp
      obtain ⟨T, hT⟩ := hTm
      have HT := hide hT
      have hiff : r = true ↔ T = n * n * n := by
        have hrr : r = true ↔ Rck f := HR.out
        rw [hrr, hT.iff, ← hn]
        exact ⟨fun h => h.2, fun h => ⟨⟨ht, hp⟩, h⟩⟩
      have HI := hide hiff
      clear hn hbs hr hres ht hp hT hiff
      go_enter Try.func43, Try.ntmps43
      go_wp2_with fail
      refine (isTable_any _ _ _ f true _ HN.out (by omega) (fun i hi => by have := HBS.out i hi; omega) (HRD.out.later HB0.out) (by simp [HTB.out])).mono ?_
      rintro e w1 ⟨rfl, hq1⟩
      have HB1 := hide (HB0.out.trans (hq1.below _))
      have HK1 := hide (HK0.out.later (hq1.below _))
      clear hq1
      have k0 := HK1.out.cell 0 _ rfl
      go_wp2_with fail
      clear k0
      refine (rowsI_any _ _ _ f true _ HN.out hb HBS.out (HRD.out.later HB1.out) ⟨fun _ => HP.out, fun _ => rfl⟩).mono ?_
      rintro e w2 ⟨rfl, hb2⟩
      have HB2 := hide (HB1.out.trans (hb2.mono HB1.out.size))
      have HK2 := hide (HK1.out.later hb2)
      clear hb2
      have k0 := HK2.out.cell 0 _ rfl
      go_wp2_with fail
      clear k0
      refine (kfault_any _ _ _ f T _ HN.out HTB.out (HRD.out.later HB2.out) HT.out).mono ?_
      rintro e w3 (⟨hTe, rfl, hb3⟩ | ⟨hTl, g, rfl, hb3, hg, hob⟩)
      · have hrt : r = true := HI.out.2 hTe
        subst hrt
        have HB3 := hide (HB2.out.trans (hb3.mono HB2.out.size))
        clear hb3 hTe
        go_wp2_with fail
        go_ret
        exact ⟨rfl, HB3.out⟩
      · have hrf : r = false := by
          cases r
          · rfl
          · have := HI.out.1 rfl; omega
        subst hrf
        have HB3 := hide (HB2.out.trans (hb3.mono HB2.out.size))
        clear hb3 hTl hob
        go_wp2_with fail
        go_ret
        exact ⟨rfl, HB3.out⟩
    · have hrf : r = false := by
        cases r
        · rfl
        · exact absurd (HR.out.1 rfl).prm hp
      subst hrf
      have HP := hide hp
      clear hn hbs hr hres ht hp
      go_enter Try.func43, Try.ntmps43
      go_wp2_with fail
      refine (isTable_any _ _ _ f true _ HN.out (by omega) (fun i hi => by have := HBS.out i hi; omega) (HRD.out.later HB0.out) (by simp [HTB.out])).mono ?_
      rintro e w1 ⟨rfl, hq1⟩
      have HB1 := hide (HB0.out.trans (hq1.below _))
      have HK1 := hide (HK0.out.later (hq1.below _))
      clear hq1
      have k0 := HK1.out.cell 0 _ rfl
      go_wp2_with fail
      clear k0
      refine (rowsI_any _ _ _ f false _ HN.out hb HBS.out (HRD.out.later HB1.out) ⟨fun h => (by cases h), fun h => absurd h HP.out⟩).mono ?_
      rintro e w2 ⟨rfl, hb2⟩
      have HB2 := hide (HB1.out.trans (hb2.mono HB1.out.size))
      clear hb2
      go_wp2_with fail
      go_ret
      exact ⟨rfl, HB2.out⟩
  · have hrf : r = false := by
      cases r
      · rfl
      · exact absurd (HR.out.1 rfl).tbl ht
    subst hrf
    have HTB := hide ht
    clear hn hbs hr hres ht
    go_enter Try.func43, Try.ntmps43
    go_wp2_with fail
    refine (isTable_any _ _ _ f false _ HN.out (by omega) (fun i hi => by have := HBS.out i hi; omega) (HRD.out.later HB0.out) (by simp [HTB.out])).mono ?_
    rintro e w1 ⟨rfl, hq1⟩
    have HB1 := hide (HB0.out.trans (hq1.below _))
    clear hq1
    go_wp2_with fail
    go_ret
    exact ⟨rfl, HB1.out⟩
end Go.Proofs.Ytkflmhmbkilmpab
namespace Go.Proofs.Ytkflmhmbkilmpab
open Go Go.RowKit
set_option maxHeartbeats 2000000

set_option maxRecDepth 100000 in
theorem lrI_any (A : Option Addr) (n c : Nat) (f : List (List Int)) (zs : List (List Int)) (code : Int) (k : Nat) (w : World) (hn : f.length = n) (hb : n ≤ 1048576) (hbs : ∀ i, i < f.length → (f.getD i []).length ≤ 1048576) (hr : Rd2 w A f) (hres : LrRes f zs code) (hk : zs.length = k) :
    Calls Try.prog 27 #[.agg #[.slice A n c]] w (fun e w' => ∃ A' c', e = .returned (.tuple #[.agg #[.slice A' k c'], .int .i64 code]) ∧ Below w.heap.size w w' ∧ Obj2 33 2 w.heap.size w'.heap.size w' A' zs) := by
  have HN := hide hn
  have HBS := hide hbs
  have HRD := hide hr
  have HB0 := hide (((Below.refl _ w).alloc (Nat.le_refl _) (Obj.cells #[Value.slice A n c] 26)).alloc (by simp) (Obj.cells #[.slice none 0 0] 26))
  have HK0 := hide ((Blk.new w 26 [.slice A n c]).alloc (Obj.cells #[.slice none 0 0] 26))
  have HR0 : Hid (Blk ((w.alloc (Obj.cells #[Value.slice A n c] 26)).alloc (Obj.cells #[.slice none 0 0] 26)) (w.heap.size + 1) 26 [.slice none 0 0]) := hide (by have h := Blk.new (w.alloc (Obj.cells #[Value.slice A n c] 26)) 26 [.slice none 0 0]; simpa using h)
  by_cases hp : Rck f
  · have HRES : Hid (LeastRes f zs code) := hide (by
      rcases hres with ⟨_, h7, h1, h2⟩ | ⟨_, h7, h1, h2⟩ | ⟨h, _⟩
      · exact .inl ⟨hp.tbl, h7, h1, h2⟩
      · exact .inr (.inl ⟨hp.tbl, h7, h1, h2⟩)
      · exact absurd hp h)
    have HKZ := hide hk
    clear hres hk
    have HRK : Hid (RkRes f true) := hide (by unfold RkRes; simp [hp])
    have HP := hide hp
    clear hn hbs hr hp
    go_enter Try.func27, Try.ntmps27
    go_wp2_with fail
    refine (isRackI _ _ _ f true _ HN.out hb HBS.out (HRD.out.later HB0.out) HRK.out).mono ?_
    rintro e w1 ⟨rfl, hb1⟩
    have HB1 := hide (HB0.out.trans (hb1.mono HB0.out.size))
    have HK1 := hide (HK0.out.later hb1)
    have HR1 := hide (HR0.out.later hb1)
    clear hb1
    have k0 := HK1.out.cell 0 _ rfl
    go_wp2_with fail
    clear k0
    refine (leastI_any _ _ _ f zs code k _ HN.out hb HBS.out (HRD.out.later HB1.out) HRES.out HKZ.out).mono ?_
    rintro e w2 ⟨A2, c2, rfl, hb2, ho2⟩
    have HB2 := hide (HB1.out.trans (hb2.mono HB1.out.size))
    have HR2 := hide (HR1.out.later hb2)
    have HO2 := hide ho2
    have hlow : w.heap.size + 1 < w1.heap.size := HR1.out.lt
    clear hb2 ho2
    have k2 := HR2.out.cell 0 _ rfl
    have k3 := HR2.out.frozen 0
    go_wp2_with fail
    refine bp_gen fun wf hwf => ?_
    obtain ⟨q0, hbf, hof⟩ := kend hwf HR2.out (by omega) HB2.out HO2.out (by omega) hlow (Nat.le_refl _)
    clear hwf k2 k3
    exact bodyPost_ret (v := .tuple #[.agg #[.slice A2 k c2], .int .i64 code]) (by simp [results, Try.results27, go_sem, q0]) rfl ⟨_, _, rfl, hbf, hof⟩
  · obtain ⟨rfl, rfl⟩ : zs = [] ∧ code = 1 := by
      rcases hres with ⟨h, _⟩ | ⟨h, _⟩ | ⟨_, h⟩
      · exact absurd h hp
      · exact absurd h hp
      · exact h
    have hk0 : k = 0 := by rw [← hk]; rfl
    subst hk0
    clear hk hres
    have HRK : Hid (RkRes f false) := hide (by unfold RkRes; simp [hp])
    have HP := hide hp
    clear hn hbs hr hp
    go_enter Try.func27, Try.ntmps27
    go_wp2_with fail
    refine (isRackI _ _ _ f false _ HN.out hb HBS.out (HRD.out.later HB0.out) HRK.out).mono ?_
    rintro e w1 ⟨rfl, hb1⟩
    have HB1 := hide (HB0.out.trans (hb1.mono HB0.out.size))
    have HK1 := hide (HK0.out.later hb1)
    have HR1 := hide (HR0.out.later hb1)
    clear hb1
    have k2 := HR1.out.cell 0 _ rfl
    have k3 := HR1.out.frozen 0
    go_wp2_with fail
    refine bp_gen fun wf hwf => ?_
    have HRF : Blk wf (w.heap.size + 1) 26 [.slice none 0 0] := by rw [hwf]; first | exact HR1.out | exact HR1.out.set 0 _ | exact (HR1.out.set 0 _).set 1 _
    have hbf : Below w.heap.size w wf := by rw [hwf]; first | exact HB1.out | exact HB1.out.setCell (p := ⟨w.heap.size + 1, 0, none⟩) (by show w.heap.size ≤ w.heap.size + 1; omega) _ | exact (HB1.out.setCell (p := ⟨w.heap.size + 1, 0, none⟩) (by show w.heap.size ≤ w.heap.size + 1; omega) _).setCell (p := ⟨w.heap.size + 1, 1, none⟩) (by show w.heap.size ≤ w.heap.size + 1; omega) _
    have q0 := HRF.cell 0 _ rfl
    clear hwf k2 k3
    exact bodyPost_ret (v := .tuple #[.agg #[.slice none 0 0], .int .i64 1]) (by simp [results, Try.results27, go_sem, q0]) rfl ⟨_, _, rfl, hbf, .inl ⟨rfl, rfl⟩⟩

end Go.Proofs.Ytkflmhmbkilmpab
namespace Go.Proofs.Ytkflmhmbkilmpab
open Go Go.RowKit
set_option maxHeartbeats 2000000

set_option maxRecDepth 100000 in
theorem faultK_any (A : Option Addr) (n c : Nat) (f : List (List Int)) (T : Nat) (w : World) (hn : f.length = n) (ht : Tbl f) (hr : Rd2 w A f) (hT : FirstK f n T) :
    Calls Try.prog 69 #[.slice A n c] w fun e w' => (T = n * n * n ∧ e = .returned (.slice none 0 0) ∧ Below w.heap.size w w') ∨ (T < n * n * n ∧ ∃ g, e = .returned (.slice (some ⟨g, 0, none⟩) 3 3) ∧ Below w.heap.size w w' ∧ w.heap.size ≤ g ∧ OwnB 2 w' g (lst3 (trip n T))) := by
  have h1 : 1 ≤ n := by rw [← hn]; exact ht.1
  have h12 : n ≤ 12 := by rw [← hn]; exact ht.2.1
  obtain ⟨b, o, rfl, hb, hc⟩ := ht.cells hr hn
  have HC := hide hc
  have HN := hide hn
  have HTB := hide ht
  have HT := hide hT
  clear hn ht hr hT hc
  go_enter Try.func69, Try.ntmps69
  go_wp2_with fail
  go_loopw [4] (fun i wr => ∃ x : Nat, x ≤ n ∧ i = .int .i64 x ∧ Quiet w wr ∧ ∀ i, i < x * n * n → Rk3 f n i) (fun i _ => n - (intOf i).toNat)
  case atStart => exact ⟨0, Nat.zero_le _, rfl, Quiet.refl _, fun i hi => absurd hi (by omega)⟩
  case round =>
    obtain ⟨x, hx, rfl, hq, hall⟩ := hrel
    have HQ := hide hq
    clear hq
    have HALL := hide hall
    clear hall
    by_cases hlt : x < n
    · have hxz : (x : Int) < n := by omega
      go_wp2_with fail
      go_loopw [5] (fun i wi => ∃ y : Nat, y ≤ n ∧ i = .int .i64 y ∧ Quiet w wi ∧ ∀ i, i < (x * n + y) * n → Rk3 f n i) (fun i _ => n - (intOf i).toNat)
      case atStart => exact ⟨0, Nat.zero_le _, rfl, HQ.out, fun i hi => HALL.out i (by rw [Nat.add_zero] at hi; exact hi)⟩
      case round =>
        obtain ⟨y, hy, rfl, hq, halli⟩ := hrel
        have HQI := hide hq
        clear hq
        have HALLI := hide halli
        clear halli
        by_cases hlty : y < n
        · have hyz : (y : Int) < n := by omega
          go_wp2_with fail
          go_loopw [6] (fun i wi => ∃ z : Nat, z ≤ n ∧ i = .int .i64 z ∧ Quiet w wi ∧ ∀ i, i < (x * n + y) * n + z → Rk3 f n i) (fun i _ => n - (intOf i).toNat)
          case atStart => exact ⟨0, Nat.zero_le _, rfl, HQI.out, HALLI.out⟩
          case round =>
            obtain ⟨z, hzn, rfl, hq, hallj⟩ := hrel
            have HQJ := hide hq
            clear hq
            have HALLJ := hide hallj
            clear hallj
            by_cases hltz : z < n
            · have hzz : (z : Int) < n := by omega
              have hq1 := HTB.out.ap_lt HN.out hlty hltz
              have hq2 := HTB.out.ap_lt HN.out hlt hlty
              have hq3 := HTB.out.ap_lt HN.out hlt hltz
              have hat := Rk3.at (f := f) (n := n) (x := x) hlty hltz
              have HTR := hide (trip_of (n := n) (x := x) hlty hltz)
              have HKL := hide (trip_lt (n := n) hlt hlty hltz)
              obtain ⟨q1, h_1⟩ : ∃ u, ap f y z = u := ⟨_, rfl⟩
              obtain ⟨q2, h_2⟩ : ∃ u, ap f x y = u := ⟨_, rfl⟩
              obtain ⟨q3, h_3⟩ : ∃ u, ap f x z = u := ⟨_, rfl⟩
              rw [h_1, h_2, h_3] at hat
              rw [h_1] at hq1
              rw [h_2] at hq2
              rw [h_3] at hq3
              obtain ⟨q4, h_4⟩ : ∃ u, ap f x q1 = u := ⟨_, rfl⟩
              obtain ⟨q5, h_5⟩ : ∃ u, ap f q2 q3 = u := ⟨_, rfl⟩
              rw [h_4, h_5] at hat
              have HAT := hide hat
              obtain ⟨bx, ox, cx, r1, r2, r3⟩ := HC.out x hlt
              obtain ⟨by', oy, cy, s1, s2, s3⟩ := HC.out y hlty
              obtain ⟨bq, oq, cq, t1, t2, t3⟩ := HC.out q2 hq2
              have e1 := s3 z hltz
              rw [h_1] at e1
              have e2 := r3 y hlty
              rw [h_2] at e2
              have e3 := r3 z hltz
              rw [h_3] at e3
              have e4 := r3 q1 hq1
              rw [h_4] at e4
              have e5 := t3 q3 hq3
              rw [h_5] at e5
              have z1 : (q1 : Int) < n := by omega
              have z2 : (q2 : Int) < n := by omega
              have z3 : (q3 : Int) < n := by omega
              have hbl := HQJ.out.below w.heap.size
              replace r1 := (hbl.cell (p := ⟨b, o + x, none⟩) hb).trans r1
              replace s1 := (hbl.cell (p := ⟨b, o + y, none⟩) hb).trans s1
              replace t1 := (hbl.cell (p := ⟨b, o + q2, none⟩) hb).trans t1
              replace e1 := (hbl.cell (p := ⟨by', oy + z, none⟩) s2).trans e1
              replace e2 := (hbl.cell (p := ⟨bx, ox + y, none⟩) r2).trans e2
              replace e3 := (hbl.cell (p := ⟨bx, ox + z, none⟩) r2).trans e3
              replace e4 := (hbl.cell (p := ⟨bx, ox + q1, none⟩) r2).trans e4
              replace e5 := (hbl.cell (p := ⟨bq, oq + q3, none⟩) t2).trans e5
              clear hbl h_1 h_2 h_3 h_4 h_5 hat r3 s3 t3
              by_cases hcs : q4 = q5
              · have HGOOD := hide (HAT.out.2 hcs)
                subst hcs
                go_wp2_with fail
                go_quiet (fail)
                go_wp2_with fail
                go_roundw
                case rel => exact ⟨z + 1, by omega, by go_num, HQJ.out.drewN _, fun i hi => by
                  by_cases e : i = (x * n + y) * n + z
                  · rw [e]; exact HGOOD.out
                  · exact HALLJ.out i (by omega)⟩
                case measure => simp [intOf]; omega
              · have hbad : ¬ Rk3 f n ((x * n + y) * n + z) := fun h => hcs (HAT.out.1 h)
                have HTB2 := hide (HT.out.bad HALLJ.out HKL.out hbad)
                have hcz : ¬ (q4 : Int) = q5 := by omega
                clear hbad
                go_wp2_with fail
                go_quiet (fail)
                go_wp2_with fail
                refine bp_gen fun wf hwf => ?_
                have HBF : Below w.heap.size w wf := by rw [hwf]; exact ((HQJ.out.drewN nq).below _).alloc ((HQJ.out.drewN nq).below 0).size _
                have HLF : Hid (Blk wf (wr.drewN nq).heap.size 2 [.int .i64 x, .int .i64 y, .int .i64 z]) := hide (by rw [hwf]; exact Blk.new _ _ _)
                have hlo : w.heap.size ≤ (wr.drewN nq).heap.size := ((HQJ.out.drewN nq).below 0).size
                clear hwf
                go_ret
                exact .inr ⟨by rw [HTB2.out]; exact HKL.out, _, rfl, HBF, hlo, _, HLF.out, fun i hi => by
                  rw [HTB2.out, HTR.out] at hi ⊢
                  simp [lst3] at hi
                  rcases i with _ | _ | _ | i
                  · rfl
                  · rfl
                  · rfl
                  · omega⟩
            · have hzn' : z = n := by omega
              subst hzn'
              go_wp2_with fail
              go_roundw
              case rel => exact ⟨y + 1, by omega, by go_num, HQJ.out, fun i hi => HALLJ.out i (by rw [← Nat.add_assoc, Nat.add_mul _ 1, Nat.one_mul] at hi; exact hi)⟩
              case measure => simp [intOf]; omega
        · have hyn' : y = n := by omega
          subst hyn'
          go_wp2_with fail
          go_roundw
          case rel => exact ⟨x + 1, by omega, by go_num, HQI.out, fun i hi => HALLI.out i (by rw [Nat.add_mul x 1, Nat.one_mul] at hi; exact hi)⟩
          case measure => simp [intOf]; omega
    · have hxn : x = n := by omega
      subst hxn
      go_wp2_with fail
      go_ret
      exact .inl ⟨HT.out.all HALL.out, rfl, HQ.out.below _⟩
end Go.Proofs.Ytkflmhmbkilmpab
namespace Go.Proofs.Ytkflmhmbkilmpab
open Go Go.RowKit
set_option maxHeartbeats 2000000

set_option maxRecDepth 100000 in
theorem isRackS (A : Option Addr) (n c : Nat) (f : List (List Int)) (r : Bool) (w : World) (hn : f.length = n) (hb : n ≤ 1048576) (hbs : ∀ i, i < f.length → (f.getD i []).length ≤ 1048576) (hr : Rd2 w A f) (hres : RkRes f r) :
    Calls Try.prog 40 #[.agg #[.slice A n c]] w fun e w' => e = .returned (.bool r) ∧ Below w.heap.size w w' := by
  have HN := hide hn
  have HBS := hide hbs
  have HRD := hide hr
  have HR := hide hres
  have HB0 := hide ((Below.refl _ w).alloc (Nat.le_refl _) (Obj.cells #[Value.slice A n c] 26))
  have HK0 := hide (Blk.new w 26 [.slice A n c])
  by_cases ht : Tbl f
  · have HTB := hide ht
    obtain ⟨T, hT⟩ := FirstK.ex f n
    have HT := hide hT
    clear hn hbs hr hres ht hT
    go_enter Try.func40, Try.ntmps40
    go_wp2_with fail
    refine (l01Table_any _ _ _ f true _ HN.out (by omega) (fun i hi => by have := HBS.out i hi; omega) (HRD.out.later HB0.out) (by simp [HTB.out])).mono ?_
    rintro e w1 ⟨rfl, hq1⟩
    have HB1 := hide (HB0.out.trans (hq1.below _))
    have HK1 := hide (HK0.out.later (hq1.below _))
    clear hq1
    go_wp2_with fail
    go_loopw [3] (fun i wr => ∃ k : Nat, k ≤ n ∧ i = .int .i64 k ∧ Below w.heap.size w wr ∧ Blk wr w.heap.size 26 [.slice A n c] ∧ ∀ i, i < k → Prm (f.getD i [])) (fun i _ => n - (intOf i).toNat)
    case atStart => exact ⟨0, Nat.zero_le _, rfl, HB1.out, HK1.out, fun i hi => absurd hi (Nat.not_lt_zero _)⟩
    case round =>
      obtain ⟨k, hk, rfl, hbe, hkk, hall⟩ := hrel
      have HB := hide hbe
      have HK := hide hkk
      have HALL := hide hall
      clear hbe hkk hall
      have k0 := HK.out.cell 0 _ rfl
      by_cases hlt : k < n
      · obtain ⟨b, o, hA, _, hc⟩ := (HRD.out.later HB.out) (by have := HN.out; omega)
        obtain ⟨Ak, ck, hcell, hrd⟩ := hc k (by have := HN.out; omega)
        have hbk := HBS.out k (by have := HN.out; omega)
        obtain ⟨x, hx⟩ : ∃ x, x = f.getD k [] := ⟨_, rfl⟩
        obtain ⟨m, hm⟩ : ∃ m, x.length = m := ⟨_, rfl⟩
        rw [← hx] at hcell hrd hbk
        rw [hm] at hcell hbk
        have HX := hide hx
        have HM := hide hm
        have hltz : (k : Int) < n := by omega
        clear hx hm hc
        subst hA
        by_cases hp : Prm x
        · have HP := hide hp
          clear hp
          go_wp2_with fail
          clear k0
          refine (prmS_below _ _ _ x true _ HM.out (by omega) hrd (by simp [HP.out])).mono ?_
          rintro e w2 ⟨rfl, hq1⟩
          have HQ1 := hide hq1
          clear hq1
          go_wp2_with fail
          go_roundw
          case rel =>
            refine ⟨k + 1, by omega, by go_num, HB.out.trans (HQ1.out.mono HB.out.size), HK.out.later HQ1.out, fun i hi => ?_⟩
            by_cases e : i = k
            · subst e; rw [← HX.out]; exact HP.out
            · exact HALL.out i (by omega)
          case measure => simp [intOf]; omega
        · have HP := hide hp
          clear hp
          go_wp2_with fail
          clear k0
          refine (prmS_below _ _ _ x false _ HM.out (by omega) hrd (by simp [HP.out])).mono ?_
          rintro e w2 ⟨rfl, hq1⟩
          have HQ1 := hide hq1
          clear hq1
          have hnp : ¬ AllPrm f := fun h => by
            have h := h k (by have := HN.out; omega)
            rw [← HX.out] at h
            exact HP.out h
          have hrf : r = false := by
            cases r
            · rfl
            · have hrr : true = true ↔ Rck f := HR.out
              exact absurd (hrr.1 rfl).prm hnp
          subst hrf
          clear hnp
          go_wp2_with fail
          go_ret
          exact ⟨rfl, HB.out.trans (HQ1.out.mono HB.out.size)⟩
      · have hkn : k = n := by omega
        subst hkn
        have HAP : Hid (AllPrm f) := hide (fun i hi => HALL.out i (by have := HN.out; omega))
        go_wp2_with fail
        clear k0
        refine (faultK_any _ _ _ f T _ HN.out HTB.out (HRD.out.later HB.out) HT.out).mono ?_
        rintro e w3 (⟨hTe, rfl, hb3⟩ | ⟨hTl, g, rfl, hb3, hg, hob⟩)
        · have hrt : r = true := by
            have hrr : r = true ↔ Rck f := HR.out
            rw [hrr]
            refine ⟨⟨HTB.out, HAP.out⟩, ?_⟩
            rw [HN.out]
            exact HT.out.iff.1 hTe
          subst hrt
          have HB3 := hide (HB.out.trans (hb3.mono HB.out.size))
          clear hb3 hTe
          go_wp2_with fail
          go_ret
          exact ⟨rfl, HB3.out⟩
        · have hrf : r = false := by
            cases r
            · rfl
            · have hrr : true = true ↔ Rck f := HR.out
              have h := (hrr.1 rfl).2
              rw [HN.out] at h
              have := HT.out.iff.2 h
              omega
          subst hrf
          have HB3 := hide (HB.out.trans (hb3.mono HB.out.size))
          clear hb3 hTl hob
          go_wp2_with fail
          go_ret
          exact ⟨rfl, HB3.out⟩
  · have HTB := hide ht
    have hrf : r = false := by
      cases r
      · rfl
      · have hrr : true = true ↔ Rck f := HR.out
        exact absurd (hrr.1 rfl).tbl ht
    subst hrf
    clear hn hbs hr hres ht
    go_enter Try.func40, Try.ntmps40
    go_wp2_with fail
    refine (l01Table_any _ _ _ f false _ HN.out (by omega) (fun i hi => by have := HBS.out i hi; omega) (HRD.out.later HB0.out) (by simp [HTB.out])).mono ?_
    rintro e w1 ⟨rfl, hq1⟩
    have HB1 := hide (HB0.out.trans (hq1.below _))
    clear hq1
    go_wp2_with fail
    go_ret
    exact ⟨rfl, HB1.out⟩

end Go.Proofs.Ytkflmhmbkilmpab
namespace Go.Proofs.Ytkflmhmbkilmpab
open Go Go.RowKit
set_option maxHeartbeats 2000000

set_option maxRecDepth 100000 in
theorem lrS_any (A : Option Addr) (n c : Nat) (f : List (List Int)) (zs : List (List Int)) (code : Int) (k : Nat) (w : World) (hn : f.length = n) (hb : n ≤ 1048576) (hbs : ∀ i, i < f.length → (f.getD i []).length ≤ 1048576) (hr : Rd2 w A f) (hres : LrRes f zs code) (hk : zs.length = k) :
    Calls Try.prog 26 #[.agg #[.slice A n c]] w (fun e w' => ∃ A' c', e = .returned (.tuple #[.agg #[.slice A' k c'], .int .i64 code]) ∧ Below w.heap.size w w' ∧ Obj2 33 2 w.heap.size w'.heap.size w' A' zs) := by
  have HN := hide hn
  have HBS := hide hbs
  have HRD := hide hr
  have HB0 := hide (((Below.refl _ w).alloc (Nat.le_refl _) (Obj.cells #[Value.slice A n c] 26)).alloc (by simp) (Obj.cells #[.slice none 0 0] 26))
  have HK0 := hide ((Blk.new w 26 [.slice A n c]).alloc (Obj.cells #[.slice none 0 0] 26))
  have HR0 : Hid (Blk ((w.alloc (Obj.cells #[Value.slice A n c] 26)).alloc (Obj.cells #[.slice none 0 0] 26)) (w.heap.size + 1) 26 [.slice none 0 0]) := hide (by have h := Blk.new (w.alloc (Obj.cells #[Value.slice A n c] 26)) 26 [.slice none 0 0]; simpa using h)
  rcases hres with ⟨hp, h7, rfl, rfl⟩ | ⟨hp, h7, rfl, rfl⟩ | ⟨hp, rfl, rfl⟩
  · rw [hn] at hk h7 ⊢
    have hsh := bestS_shape f n (permsS n).length hn (fun i hi => by rw [hp.tbl.rows i (by omega)]; exact hn)
    have hk2 : k = n := by rw [← hk]; exact hsh.1
    subst hk2
    have HTB := hide hp.tbl
    have h7z : ¬ (7 : Int) < (k : Int) := by omega
    clear hk hsh
    have HRK : Hid (RkRes f true) := hide (by unfold RkRes; simp [hp])
    have HP := hide hp
    clear hn hbs hr hp
    go_enter Try.func26, Try.ntmps26
    go_wp2_with fail
    refine (isRackS _ _ _ f true _ HN.out hb HBS.out (HRD.out.later HB0.out) HRK.out).mono ?_
    rintro e w1 ⟨rfl, hb1⟩
    have HB1 := hide (HB0.out.trans (hb1.mono HB0.out.size))
    have HK1 := hide (HK0.out.later hb1)
    have HR1 := hide (HR0.out.later hb1)
    clear hb1
    have k0 := HK1.out.cell 0 _ rfl
    go_wp2_with fail
    clear k0
    refine calls_gen fun w5 hw5 => ?_
    obtain ⟨bc, hbc⟩ : ∃ bc, w1.heap.size = bc := ⟨_, rfl⟩
    have hbx : Below w1.heap.size w1 w5 := by rw [hw5]; exact (Below.refl _ _).alloc (Nat.le_refl _) _
    have HC5 : Hid (Blk w5 bc 22 [.slice A k c]) := hide (by rw [hw5, ← hbc]; exact Blk.new _ _ _)
    have HB5 := hide (HB1.out.trans (hbx.mono HB1.out.size))
    have HR5 := hide (HR1.out.later hbx)
    rw [hbc]
    clear hw5 hbx hbc
    refine (lstK_any bc _ A k c f _ HN.out HTB.out h7 (HC5.out.cell 0 _ rfl) HC5.out.lt (HRD.out.later HB5.out)).mono ?_
    rintro e w2 ⟨go, co, A2, c2, rfl, hb2, hcell2, ho2⟩
    have HB2 := hide (HB5.out.trans (hb2.mono HB5.out.size))
    have HR2 := hide (HR5.out.later hb2)
    have HO2 := hide ho2
    have hlow : w.heap.size + 1 < w5.heap.size := HR5.out.lt
    clear hb2 ho2
    have k2 := HR2.out.cell 0 _ rfl
    have k3 := HR2.out.frozen 0
    go_wp2_with fail
    refine bp_gen fun wf hwf => ?_
    obtain ⟨q0, hbf, hof⟩ := kend hwf HR2.out (by omega) HB2.out HO2.out (by omega) hlow (Nat.le_refl _)
    clear hwf k2 k3
    exact bodyPost_ret (v := .tuple #[.agg #[.slice A2 k c2], .int .i64 0]) (by simp [results, Try.results26, go_sem, q0]) rfl ⟨_, _, rfl, hbf, hof⟩
  · have hk0 : k = 0 := by rw [← hk]; rfl
    subst hk0
    have h7z : (7 : Int) < (n : Int) := by omega
    clear hk
    have HRK : Hid (RkRes f true) := hide (by unfold RkRes; simp [hp])
    have HP := hide hp
    clear hn hbs hr hp
    go_enter Try.func26, Try.ntmps26
    go_wp2_with fail
    refine (isRackS _ _ _ f true _ HN.out hb HBS.out (HRD.out.later HB0.out) HRK.out).mono ?_
    rintro e w1 ⟨rfl, hb1⟩
    have HB1 := hide (HB0.out.trans (hb1.mono HB0.out.size))
    have HK1 := hide (HK0.out.later hb1)
    have HR1 := hide (HR0.out.later hb1)
    clear hb1
    have k0 := HK1.out.cell 0 _ rfl
    have k2 := HR1.out.cell 0 _ rfl
    have k3 := HR1.out.frozen 0
    go_wp2_with fail
    refine bp_gen fun wf hwf => ?_
    have HRF : Blk wf (w.heap.size + 1) 26 [.slice none 0 0] := by rw [hwf]; first | exact HR1.out | exact HR1.out.set 0 _ | exact (HR1.out.set 0 _).set 1 _
    have hbf : Below w.heap.size w wf := by rw [hwf]; first | exact HB1.out | exact HB1.out.setCell (p := ⟨w.heap.size + 1, 0, none⟩) (by show w.heap.size ≤ w.heap.size + 1; omega) _ | exact (HB1.out.setCell (p := ⟨w.heap.size + 1, 0, none⟩) (by show w.heap.size ≤ w.heap.size + 1; omega) _).setCell (p := ⟨w.heap.size + 1, 1, none⟩) (by show w.heap.size ≤ w.heap.size + 1; omega) _
    have q0 := HRF.cell 0 _ rfl
    clear hwf k0 k2 k3
    exact bodyPost_ret (v := .tuple #[.agg #[.slice none 0 0], .int .i64 3]) (by simp [results, Try.results26, go_sem, q0]) rfl ⟨_, _, rfl, hbf, .inl ⟨rfl, rfl⟩⟩

  · have hk0 : k = 0 := by rw [← hk]; rfl
    subst hk0
    clear hk
    have HRK : Hid (RkRes f false) := hide (by unfold RkRes; simp [hp])
    have HP := hide hp
    clear hn hbs hr hp
    go_enter Try.func26, Try.ntmps26
    go_wp2_with fail
    refine (isRackS _ _ _ f false _ HN.out hb HBS.out (HRD.out.later HB0.out) HRK.out).mono ?_
    rintro e w1 ⟨rfl, hb1⟩
    have HB1 := hide (HB0.out.trans (hb1.mono HB0.out.size))
    have HK1 := hide (HK0.out.later hb1)
    have HR1 := hide (HR0.out.later hb1)
    clear hb1
    have k2 := HR1.out.cell 0 _ rfl
    have k3 := HR1.out.frozen 0
    go_wp2_with fail
    refine bp_gen fun wf hwf => ?_
    have HRF : Blk wf (w.heap.size + 1) 26 [.slice none 0 0] := by rw [hwf]; first | exact HR1.out | exact HR1.out.set 0 _ | exact (HR1.out.set 0 _).set 1 _
    have hbf : Below w.heap.size w wf := by rw [hwf]; first | exact HB1.out | exact HB1.out.setCell (p := ⟨w.heap.size + 1, 0, none⟩) (by show w.heap.size ≤ w.heap.size + 1; omega) _ | exact (HB1.out.setCell (p := ⟨w.heap.size + 1, 0, none⟩) (by show w.heap.size ≤ w.heap.size + 1; omega) _).setCell (p := ⟨w.heap.size + 1, 1, none⟩) (by show w.heap.size ≤ w.heap.size + 1; omega) _
    have q0 := HRF.cell 0 _ rfl
    clear hwf k2 k3
    exact bodyPost_ret (v := .tuple #[.agg #[.slice none 0 0], .int .i64 1]) (by simp [results, Try.results26, go_sem, q0]) rfl ⟨_, _, rfl, hbf, .inl ⟨rfl, rfl⟩⟩

end Go.Proofs.Ytkflmhmbkilmpab
namespace Go.Proofs.Ytkflmhmbkilmpab
open Go Go.RowKit
set_option maxHeartbeats 2000000

theorem l01Perms_any (n : Nat) (w : World) (h1 : 1 ≤ n) (h7 : n ≤ 7) :
    Calls Try.prog 75 #[.int .i64 n] w fun e w' => ∃ A' c', e = .returned (.slice A' (permsS n).length c') ∧ Below w.heap.size w w' ∧ Obj2 33 2 w.heap.size w'.heap.size w' A' (permsS n) := by
  have HP := hide (perms_all n h1 h7)
  go_enter Try.func75, Try.ntmps75
  go_wp2_with fail
  have hal : Below w.heap.size w ((w.alloc (.cells #[] 2)).alloc (.cells #[] 33)) := ((Below.refl _ _).alloc (Nat.le_refl _) _).alloc (by simp) _
  have HAL := hide hal
  have hlst : LstV 33 2 w.heap.size ((w.alloc (.cells #[] 2)).alloc (.cells #[] 33)) (.slice (some ⟨w.heap.size + 1, 0, none⟩) 0 0) [] [] := by
    have h := LstV.start (w.alloc (.cells #[] 2)) 33 2
    obtain ⟨h1, h2, h3⟩ := h
    obtain ⟨h4, h5⟩ := h1
    refine ⟨⟨h4, ?_⟩, fun i hi => by simp at hi, fun i j u u' g _ hu => by simp at hu⟩
    rcases h5 with ⟨h5, _⟩ | ⟨g, cap, cur, hv, hg, r⟩
    · cases h5
    · exact .inr ⟨g, cap, cur, by simpa using hv, by simp at hg; omega, r⟩
  have HL := hide hlst
  have hob : Obj1 2 w.heap.size ((w.alloc (.cells #[] 2)).alloc (.cells #[] 33)).heap.size ((w.alloc (.cells #[] 2)).alloc (.cells #[] 33)) (some ⟨w.heap.size, 0, none⟩) [] :=
    .inr ⟨w.heap.size, rfl, Nat.le_refl _, by simp; omega, #[], (Below.heap_alloc _ _ _ (by simp)).trans (heap_alloc_new _ _), fun i hi => by simp at hi⟩
  have HO := hide hob
  clear hal hlst hob
  refine (grow_any w.heap.size n n 0 0 w.heap.size [] _ [] [] _ rfl (by omega) (by omega) (by simp; omega) HO.out HL.out (fun i u g hu => by simp at hu) (by have := HP.out.most; show 0 + (permsS n).length ≤ _; omega)).mono ?_
  rintro e w1 ⟨v', vals', rfl, hk, hb, hB, hl⟩
  have HL1 := hide hl
  have HB1 := hide hb
  clear hk hb hl
  go_wp2_with fail
  go_ret
  obtain ⟨A', c', hv, hobj⟩ := HL1.out.shape
  exact ⟨A', c', by rw [show [] ++ growS n n [] = permsS n from rfl] at hv; rw [← hv]; rfl, HAL.out.trans HB1.out, hobj⟩
end Go.Proofs.Ytkflmhmbkilmpab
