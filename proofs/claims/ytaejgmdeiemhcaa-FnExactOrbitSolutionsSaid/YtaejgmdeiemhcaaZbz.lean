import Derived.Test.YtaejgmdeiemhcaaZby
import Derived.Deep.OwnRows
import Derived.Test.YtaejgmdeiemhcaaZbc
namespace Go.Proofs.Ytaejgmdeiemhcaa
open Go Go.RowKit
/-! A list of solutions that is being filled. -/
def qpC (R S : Nat → Option Addr) (C D : Nat → Nat) (zs : Nat → SolV) (k i : Nat) : Value :=
  if i / 2 < k then (if i % 2 = 0 then .slice (R (i / 2)) (zs (i / 2)).1.length (C (i / 2)) else .slice (S (i / 2)) (zs (i / 2)).2.length (D (i / 2))) else .slice none 0 0
structure QP (ts t tq : TypeId) (w : World) (g q k : Nat) (R S : Nat → Option Addr) (C D p : Nat → Nat) (zs : Nat → SolV) : Prop where
  row : w.rowIs g tq (q * 2) (qpC R S C D zs k)
  low : g < p 0
  mono : ∀ i, i < k → p i ≤ p (i + 1)
  top : p k ≤ w.heap.size
  obj : ∀ i, i < k → ObjZ ts t (p i) (p (i + 1)) w (R i) (zs i).1 (S i) (zs i).2
def upd {α : Type} (f : Nat → α) (k : Nat) (v : α) : Nat → α := fun i => if i = k then v else f i
section
variable {ts t tq : TypeId} {w w' : World} {g q k : Nat} {R S : Nat → Option Addr} {C D p : Nat → Nat} {zs : Nat → SolV}
theorem QP.later (h : QP ts t tq w g q k R S C D p zs) (hb : Below w.heap.size w w') : QP ts t tq w' g q k R S C D p zs :=
  ⟨h.row.of_block (hb.block g h.row.lt), h.low, h.mono, Nat.le_trans h.top hb.size, fun i hi => (h.obj i hi).later hb⟩
theorem QP.le (h : QP ts t tq w g q k R S C D p zs) {i j : Nat} (hij : i ≤ j) (hj : j ≤ k) : p i ≤ p j := by
  induction j with
  | zero => rw [show i = 0 by omega]; exact Nat.le_refl _
  | succ j ih =>
    by_cases e : i = j + 1
    · rw [e]; exact Nat.le_refl _
    · exact Nat.le_trans (ih (by omega) (by omega)) (h.mono j (by omega))
theorem qp_set {vA vB : Option Addr} {cA cB k : Nat} {R S : Nat → Option Addr} {C D : Nat → Nat} {zs : Nat → SolV} (i : Nat) :
    (if i = k * 2 + 1 then Value.slice vB (zs k).2.length cB else if i = k * 2 then Value.slice vA (zs k).1.length cA else qpC R S C D zs k i) = qpC (upd R k vA) (upd S k vB) (upd C k cA) (upd D k cB) zs (k + 1) i := by
  unfold qpC upd
  by_cases h1 : i = k * 2 + 1
  · subst h1
    rw [if_pos rfl, if_pos (show (k * 2 + 1) / 2 < k + 1 by omega), if_neg (show ¬ (k * 2 + 1) % 2 = 0 by omega), show (k * 2 + 1) / 2 = k by omega]
    simp
  · rw [if_neg h1]
    by_cases h2 : i = k * 2
    · subst h2
      rw [if_pos rfl, if_pos (show k * 2 / 2 < k + 1 by omega), if_pos (show k * 2 % 2 = 0 by omega), show k * 2 / 2 = k by omega]
      simp
    · rw [if_neg h2]
      have hne : i / 2 ≠ k := by omega
      by_cases h3 : i / 2 < k
      · rw [if_pos h3, if_pos (show i / 2 < k + 1 by omega)]
        simp [hne]
      · rw [if_neg h3, if_neg (show ¬ i / 2 < k + 1 by omega)]
/-- The next solution is made and put into its place. -/
theorem QP.step {vA vB : Option Addr} {cA cB l : Nat} (h : QP ts t tq w g q k R S C D p zs) (hk : k < q) (hl : p k ≤ l) (hl2 : l ≤ w.heap.size) (hz : ObjZ ts t l w.heap.size w vA (zs k).1 vB (zs k).2) :
    QP ts t tq (((w.setCell ⟨g, k * 2, none⟩ (.slice vA (zs k).1.length cA)).setCell ⟨g, k * 2 + 1, none⟩ (.slice vB (zs k).2.length cB))) g q (k + 1) (upd R k vA) (upd S k vB) (upd C k cA) (upd D k cB) (upd p (k + 1) w.heap.size) zs := by
  have hsz : (((w.setCell ⟨g, k * 2, none⟩ (.slice vA (zs k).1.length cA)).setCell ⟨g, k * 2 + 1, none⟩ (.slice vB (zs k).2.length cB))).heap.size = w.heap.size := by simp [World.setCell]
  have ht : Touch g (g + 1) w (((w.setCell ⟨g, k * 2, none⟩ (.slice vA (zs k).1.length cA)).setCell ⟨g, k * 2 + 1, none⟩ (.slice vB (zs k).2.length cB))) :=
    ⟨rfl, rfl, rfl, by rw [hsz]; exact Nat.le_refl _, fun j hj hne => by
      rw [Below.heap_setCell _ _ _ j (by show j ≠ g; omega), Below.heap_setCell _ _ _ j (by show j ≠ g; omega)]⟩
  refine ⟨((h.row.set (k * 2) _).set (k * 2 + 1) _).congr fun i _ => qp_set i, ?_, fun i hi => ?_, ?_, fun i hi => ?_⟩
  · have := h.low
    unfold upd
    rw [if_neg (by omega)]
    exact this
  · unfold upd
    by_cases e : i = k
    · subst e
      rw [if_neg (by omega), if_pos rfl]
      omega
    · rw [if_neg (by omega), if_neg (by omega)]
      exact h.mono i (by omega)
  · unfold upd
    rw [if_pos rfl, hsz]
    exact Nat.le_refl _
  · have hlow := h.low
    unfold upd
    by_cases e : i = k
    · subst e
      rw [if_neg (by omega), if_pos rfl, if_pos rfl, if_pos rfl]
      exact (hz.mono hl (Nat.le_refl _)).far ht (.inr (by have := h.le (Nat.zero_le i) (Nat.le_refl _); omega))
    · rw [if_neg (by omega), if_neg (by omega), if_neg e, if_neg e]
      exact (h.obj i (by omega)).far ht (.inr (by have := h.le (Nat.zero_le i) (by omega); omega))
theorem QP.done {f s : List (List Int)} (h : QP ts t tq w g q q R S C D p (osZ f s)) : QW ts t tq w g R S C D p (osL f s q) := by
  have hl := osL_length f s q
  obtain ⟨c, h1, h2, h3⟩ := h.row
  refine ⟨⟨c, h1, fun i hi => ?_⟩, h.low, fun i hi => h.mono i (by omega), fun i hi => ?_⟩
  · rw [osL_at f s q i (by omega), h3 _ (by omega), h3 _ (by omega)]
    unfold qpC
    rw [if_pos (show i * 2 / 2 < q by omega), if_pos (show i * 2 % 2 = 0 by omega), if_pos (show (i * 2 + 1) / 2 < q by omega), if_neg (show ¬ (i * 2 + 1) % 2 = 0 by omega), show i * 2 / 2 = i by omega, show (i * 2 + 1) / 2 = i by omega]
    exact ⟨rfl, rfl⟩
  · rw [osL_at f s q i (by omega)]
    exact h.obj i (by omega)
end
end Go.Proofs.Ytaejgmdeiemhcaa
namespace Go.Proofs.Ytaejgmdeiemhcaa
open Go Go.RowKit
set_option maxHeartbeats 2000000
theorem elInfo : (Try.prog.info? 2).map (fun i => (i.zero, i.size, i.bytes)) = some (some (.int .i64 0), 1, 8) := by kernel_rfl
set_option maxRecDepth 100000 in
theorem elL_any (A : Option Addr) (n c : Nat) (xs : List Int) (o : Int) (w : World) (hn : xs.length = n) (hb : n ≤ 4096) (hr : Rd w A xs) :
    Calls Try.prog 80 #[.slice A n c, .int .i64 o] w fun e w' => ∃ A' c', e = .returned (.slice A' (memTo xs o n).length c') ∧ Below w.heap.size w w' ∧ Res 2 w.heap.size w' A' (memTo xs o n) := by
  obtain ⟨i0, hi, hz0, hz1, hz2⟩ := info_parts elInfo
  have HN := hide hn
  have HR := hide hr
  clear hn hr
  go_enter Try.func80, Try.ntmps80
  go_wp2_with fail
  go_loopw [5, 11] (fun v i wr => ∃ k : Nat, k ≤ n ∧ i = .int .i64 k ∧ Below w.heap.size w wr ∧ wr.ownsRow w.heap.size 2 1 v (memTo xs o k).length (ints (memTo xs o k)) ∧ w.heap.size ≤ wr.heap.size) (fun _ i _ => n - (intOf i).toNat)
  case atStart => exact ⟨0, Nat.zero_le _, rfl, (Below.refl _ _).alloc (Nat.le_refl _) _, by simpa [memTo, ints] using ne_empty w 2, by simp⟩
  case round =>
    obtain ⟨k, hk, rfl, hbe, hown, hsz⟩ := hrel
    have HB := hide hbe
    have HO := hide hown
    clear hbe hown
    by_cases hlt : k < n
    · have hltz : (k : Int) < n := by omega
      obtain ⟨b, oo, rfl, hbw, hc⟩ := HR.out (by have := HN.out; omega)
      have hck := (HB.out.cell (p := ⟨b, oo + k, none⟩) hbw).trans (hc k (by have := HN.out; omega))
      obtain ⟨x, hx⟩ : ∃ x, xs.getD k 0 = x := ⟨_, rfl⟩
      rw [hx] at hck
      have HX := hide hx
      obtain ⟨fl, hfl⟩ : ∃ fl, (memTo xs o k).length = fl := ⟨_, rfl⟩
      have hfk := memTo_le xs o k
      rw [hfl] at HO hfk
      have HFL := hide hfl
      clear hfl hc hx
      by_cases he : x = o
      · subst he
        have hbeq : ((x : Int) == x) = true := by simp
        have hst := memTo_hit xs x k HX.out
        have HST := hide hst
        clear hst
        go_wp2_with (at_builtin; refine wpList_append_own _ rfl _ _ 37 rfl w.heap.size 2 i0 (.int .i64 0) 1 8 Try.underlying37 hi hz0 hz1 hz2 rfl (by decide) _ _ _ rfl (HO.out.alloc _) ⟨wr.heap.size, 0, none⟩ 1 1 [.int .i64 k] rfl rfl ?c1 ?c2 ?c3 ?c4 ?c5 ?_)
        case c1 => exact ne_new
        case c2 => intro u hu; simp at hu; subst hu; rfl
        case c3 => unfold maxLen; omega
        case c4 => omega
        case c5 => simp; omega
        intro v' w4 hown' hgrow _
        have HO' := hide hown'
        have HG4 := hide hgrow
        clear hown' hgrow hck
        go_wp2_with fail
        go_roundw
        case rel =>
          have hB4 : Below w.heap.size w w4 := (HB.out.alloc hsz _).grown HG4.out (by simp; omega) (fun g hg => ((HO.out.alloc (.cells #[.int .i64 k] 2)).lt g hg).1)
          refine ⟨k + 1, by omega, by go_num, hB4, ?_, by have := HG4.out.size; simp at this; omega⟩
          have h := HO'.out
          rw [HST.out]
          simpa [ints, HFL.out] using h
        case measure => simp [intOf]; omega
      · have hbeq : ((x : Int) == o) = false := by simpa using he
        have hst := memTo_miss xs o k (by rw [HX.out]; exact he)
        have HST := hide hst
        clear hst
        go_wp2_with fail
        go_roundw
        case rel => exact ⟨k + 1, by omega, by go_num, HB.out, by rw [HST.out, HFL.out]; exact HO.out, hsz⟩
        case measure => simp [intOf]; omega
    · have hkn : k = n := by omega
      subst hkn
      go_wp2_with fail
      go_ret
      obtain ⟨A', c', hv, hres⟩ := own_shape HO.out
      exact ⟨A', c', by rw [← hv]; rfl, HB.out, hres⟩
end Go.Proofs.Ytaejgmdeiemhcaa
