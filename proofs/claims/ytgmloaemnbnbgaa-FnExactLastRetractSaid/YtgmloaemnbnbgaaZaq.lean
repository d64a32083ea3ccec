import Derived.Test.YtgmloaemnbnbgaaZac
import Derived.Test.YtgmloaemnbnbgaaZal
import Derived.Test.YtgmloaemnbnbgaaZad
import Derived.Test.YtgmloaemnbnbgaaZaf
import Derived.Test.YtgmloaemnbnbgaaZan
import Derived.Test.YtgmloaemnbnbgaaZi
import Derived.Test.YtgmloaemnbnbgaaZg
import Derived.Test.YtgmloaemnbnbgaaZa
namespace Go.Proofs.Ytgmloaemnbnbgaa
open Go Go.RowKit
open Classical
/-- An element and where a row leads it are in one orbit. -/
theorem lab_same {rows : List (List Int)} {n : Nat} (h : Gens rows n) (k : Nat) (hk : k ≤ n) (y z : Nat) (hy : y < n) (hs : stp rows y z) : (lab rows k).1 y = (lab rows k).1 z := by
  induction k with
  | zero => rfl
  | succ k ih =>
    have e := ih (by omega)
    show (if 0 ≤ (lab rows k).1 k then lab rows k else (fun y => if Rch rows k y then ((lab rows k).2 : Int) else (lab rows k).1 y, (lab rows k).2 + 1)).1 y = (if 0 ≤ (lab rows k).1 k then lab rows k else (fun y => if Rch rows k y then ((lab rows k).2 : Int) else (lab rows k).1 y, (lab rows k).2 + 1)).1 z
    by_cases h0 : 0 ≤ (lab rows k).1 k
    · rw [if_pos h0]; exact e
    · rw [if_neg h0]
      show (if Rch rows k y then ((lab rows k).2 : Int) else (lab rows k).1 y) = (if Rch rows k z then ((lab rows k).2 : Int) else (lab rows k).1 z)
      by_cases h1 : Rch rows k y
      · rw [if_pos h1, if_pos (Rch.step h1 hs)]
      · rw [if_neg h1, if_neg (fun h2 => h1 (h.back (by omega) hy hs h2))]
        exact e
theorem memTo_iff (xs : List Int) (o : Int) (n : Nat) (v : Int) : v ∈ memTo xs o n ↔ ∃ j : Nat, j < n ∧ v = (j : Int) ∧ xs.getD j 0 = o := by
  induction n with
  | zero => simp [memTo]
  | succ n ih =>
    by_cases e : xs.getD n 0 = o
    · rw [memTo_hit xs o n e, List.mem_append, ih]
      constructor
      · rintro (⟨j, h1, h2, h3⟩ | h)
        · exact ⟨j, by omega, h2, h3⟩
        · exact ⟨n, by omega, by simpa using h, e⟩
      · rintro ⟨j, h1, h2, h3⟩
        by_cases e2 : j = n
        · subst e2; right; simp [h2]
        · left; exact ⟨j, by omega, h2, h3⟩
    · rw [memTo_miss xs o n e, ih]
      constructor
      · rintro ⟨j, h1, h2, h3⟩; exact ⟨j, by omega, h2, h3⟩
      · rintro ⟨j, h1, h2, h3⟩
        by_cases e2 : j = n
        · subst e2; exact absurd h3 e
        · exact ⟨j, by omega, h2, h3⟩
theorem memTo_inc (xs : List Int) (o : Int) (n : Nat) : (memTo xs o n).Pairwise (· < ·) := by
  induction n with
  | zero => simp [memTo]
  | succ n ih =>
    by_cases e : xs.getD n 0 = o
    · rw [memTo_hit xs o n e, List.pairwise_append]
      refine ⟨ih, by simp, fun a ha b hb => ?_⟩
      obtain ⟨j, h1, h2, _⟩ := (memTo_iff xs o n a).1 ha
      have : b = (n : Int) := by simpa using hb
      omega
    · rw [memTo_miss xs o n e]; exact ih
/-- The elements of an orbit. -/
noncomputable def orbE (f s : List (List Int)) (o : Nat) : List Int := memTo (orbS f s) (o : Int) f.length
theorem getD_mem0 {xs : List Int} {i : Nat} (h : i < xs.length) : xs.getD i 0 ∈ xs := by simp [h]
theorem orbE_set {f s : List (List Int)} (hg : NdS f s) {o : Nat} (ho : o < orbN f s) : IncSet f.length (orbE f s o) := by
  refine ⟨fun i hi => ⟨?_, fun h0 => ?_⟩, ?_⟩
  · obtain ⟨j, h1, h2, _⟩ := (memTo_iff _ _ _ _).1 (getD_mem0 hi)
    show 0 ≤ (orbE f s o).getD i 0 ∧ _
    have e : (orbE f s o).getD i 0 = (j : Int) := h2
    omega
  · have hp := memTo_inc (orbS f s) (o : Int) f.length
    have h3 := List.pairwise_iff_getElem.1 hp (i - 1) i (by unfold orbE at hi; omega) hi (by omega)
    unfold orbE at hi ⊢
    simpa [hi, show i - 1 < (memTo (orbS f s) (o : Int) f.length).length by omega] using h3
  · obtain ⟨j, h1, h2⟩ := orb_onto hg o ho
    have hm : (j : Int) ∈ orbE f s o := (memTo_iff _ _ _ _).2 ⟨j, h1, rfl, h2⟩
    exact List.length_pos_of_mem hm
theorem orbE_closed {f s : List (List Int)} (hg : NdS f s) (o : Nat) : ClF f s (orbE f s o) := by
  intro i k hi hk
  obtain ⟨a, a1, a2, a3⟩ := (memTo_iff _ _ _ _).1 (getD_mem0 hi)
  obtain ⟨b, b1, b2, b3⟩ := (memTo_iff _ _ _ _).1 (getD_mem0 hk)
  have ea : (orbE f s o).getD i 0 = (a : Int) := a2
  have eb : (orbE f s o).getD k 0 = (b : Int) := b2
  rw [ea, eb]
  simp only [Int.toNat_natCast]
  have hgen := hg.both rfl
  have hsl := (hg.sizes rfl).2.2
  have hbl := bothL_length (f := f) (s := s) rfl hsl
  have tbf := hg.map.1
  have tbs := hg.map.2.1
  have same : ∀ y z, y < f.length → z < f.length → stp (bothL f s) y z → (orbS f s).getD y 0 = (o : Int) → ((z : Nat) : Int) ∈ orbE f s o := by
    intro y z hy hz hst h
    refine (memTo_iff _ _ _ _).2 ⟨z, hz, rfl, ?_⟩
    rw [← h]
    unfold orbS
    rw [labL_at _ _ _ _ hz, labL_at _ _ _ _ hy]
    exact (lab_same hgen f.length (Nat.le_refl _) y z hy hst).symm
  constructor
  · refine same b _ b1 (tbf.ap_lt rfl a1 b1) ⟨a, by omega, ?_⟩ b3
    rw [bothL_fst rfl a a1]
    rfl
  · refine same a _ a1 (tbs.ap_lt hsl a1 b1) ⟨f.length + b, by omega, ?_⟩ a3
    rw [bothL_snd rfl]
    unfold turnL
    rw [grid_at _ _ _ _ (by omega) (by omega)]
    rfl
/-- The solutions on the orbits. -/
noncomputable def osZ (f s : List (List Int)) (o : Nat) : SolV := (grid (orbE f s o).length (sb1 f (orbE f s o)), grid (orbE f s o).length (sb1 s (orbE f s o)))
noncomputable def osL (f s : List (List Int)) (k : Nat) : List SolV := (List.range k).map (osZ f s)
theorem osL_length (f s : List (List Int)) (k : Nat) : (osL f s k).length = k := by simp [osL]
theorem osL_at (f s : List (List Int)) (k i : Nat) (h : i < k) : qz (osL f s k) i = osZ f s i := by simp [qz, osL, h]
theorem orbE_le (f s : List (List Int)) (o : Nat) : (orbE f s o).length ≤ f.length := memTo_le _ _ _
theorem osL_sz {f s : List (List Int)} (hg : NdS f s) : QSz (osL f s (orbN f s)) := by
  have h1 := (hg.sizes rfl).2.1
  have h2 := @orb_le f s
  have hl := osL_length f s (orbN f s)
  refine ⟨by omega, fun i hi => ?_, fun i hi => ?_, fun i hi j hj => ?_, fun i hi j hj => ?_⟩
  all_goals
    have h3 := orbE_le f s i
    rw [osL_at f s _ i (by omega)] at *
  · show (grid _ _).length ≤ 12
    rw [grid_length]; omega
  · show (grid _ _).length ≤ 12
    rw [grid_length]; omega
  · have hj' : j < (grid (orbE f s i).length (sb1 f (orbE f s i))).length := hj
    rw [grid_length] at hj'
    show ((grid _ _).getD j []).length ≤ 12
    rw [grid_row_length _ _ _ hj']; omega
  · have hj' : j < (grid (orbE f s i).length (sb1 s (orbE f s i))).length := hj
    rw [grid_length] at hj'
    show ((grid _ _).getD j []).length ≤ 12
    rw [grid_row_length _ _ _ hj']; omega
def OsoRes (f s : List (List Int)) (zs : List SolV) (code : Int) : Prop := (NdS f s ∧ zs = osL f s (orbN f s) ∧ code = 0) ∨ (¬ NdS f s ∧ zs = [] ∧ code = 1)
theorem OsoRes.ex (f s : List (List Int)) : ∃ zs code, OsoRes f s zs code ∧ QSz zs := by
  by_cases h : NdS f s
  · exact ⟨_, _, .inl ⟨h, rfl, rfl⟩, osL_sz h⟩
  · exact ⟨_, _, .inr ⟨h, rfl, rfl⟩, ⟨by simp, fun i hi => by simp at hi, fun i hi => by simp at hi, fun i hi => by simp at hi, fun i hi => by simp at hi⟩⟩
end Go.Proofs.Ytgmloaemnbnbgaa
namespace Go.Proofs.Ytgmloaemnbnbgaa
open Go Go.RowKit
open Classical
set_option maxHeartbeats 2000000
theorem fsInfo : (Try.prog.info? 2).map (fun i => (i.zero, i.size, i.bytes)) = some (some (.int .i64 0), 1, 8) := by kernel_rfl
set_option maxRecDepth 100000 in
theorem members_any (A : Option Addr) (n c : Nat) (xs : List Int) (o : Int) (w : World) (hn : xs.length = n) (hb : n ≤ 4096) (hr : Rd w A xs) :
    Calls Try.prog 65 #[.slice A n c, .int .i64 o] w fun e w' => ∃ A' c', e = .returned (.slice A' (memTo xs o n).length c') ∧ Below w.heap.size w w' ∧ Res 2 w.heap.size w' A' (memTo xs o n) := by
  obtain ⟨i0, hi, hz0, hz1, hz2⟩ := info_parts fsInfo
  have HN := hide hn
  have HR := hide hr
  clear hn hr
  go_enter Try.func65, Try.ntmps65
  go_wp2_with fail
  go_loopw [5, 6] (fun v i wr => ∃ k : Nat, k ≤ n ∧ i = .int .i64 k ∧ Below w.heap.size w wr ∧ wr.ownsRow w.heap.size 2 1 v (memTo xs o k).length (ints (memTo xs o k)) ∧ w.heap.size ≤ wr.heap.size) (fun _ i _ => n - (intOf i).toNat)
  case atStart => exact ⟨0, Nat.zero_le _, rfl, (Below.refl _ _).alloc (Nat.le_refl _) _, by simpa [memTo, ints] using ne_empty w 2, by simp⟩
  case round =>
    obtain ⟨k, hk, rfl, hbe, hown, hsz⟩ := hrel
    have HB := hide hbe
    have HO := hide hown
    clear hbe hown
    by_cases hlt : k < n
    · have hltz : (k : Int) < n := by omega
      obtain ⟨b, oo, rfl, hbw, hc⟩ := HR.out (by have := HN.out; omega)
      have hck := (HB.out.cell (p := ⟨b, oo + k, none⟩) hbw).trans (hc k (by have := HN.out; omega))
      obtain ⟨x, hx⟩ : ∃ x, xs.getD k 0 = x := ⟨_, rfl⟩
      rw [hx] at hck
      have HX := hide hx
      obtain ⟨fl, hfl⟩ : ∃ fl, (memTo xs o k).length = fl := ⟨_, rfl⟩
      have hfk := memTo_le xs o k
      rw [hfl] at HO hfk
      have HFL := hide hfl
      clear hfl hc hx
      by_cases he : x = o
      · subst he
        have hbeq : ((x : Int) == x) = true := by simp
        have hst := memTo_hit xs x k HX.out
        have HST := hide hst
        clear hst
        go_wp2_with (at_builtin; refine wpList_append_own _ rfl _ _ 26 rfl w.heap.size 2 i0 (.int .i64 0) 1 8 Try.underlying26 hi hz0 hz1 hz2 rfl (by decide) _ _ _ rfl (HO.out.alloc _) ⟨wr.heap.size, 0, none⟩ 1 1 [.int .i64 k] rfl rfl ?c1 ?c2 ?c3 ?c4 ?c5 ?_)
        case c1 => exact ne_new
        case c2 => intro u hu; simp at hu; subst hu; rfl
        case c3 => unfold maxLen; omega
        case c4 => omega
        case c5 => simp; omega
        intro v' w4 hown' hgrow _
        have HO' := hide hown'
        have HG4 := hide hgrow
        clear hown' hgrow hck
        go_wp2_with fail
        go_roundw
        case rel =>
          have hB4 : Below w.heap.size w w4 := (HB.out.alloc hsz _).grown HG4.out (by simp; omega) (fun g hg => ((HO.out.alloc (.cells #[.int .i64 k] 2)).lt g hg).1)
          refine ⟨k + 1, by omega, by go_num, hB4, ?_, by have := HG4.out.size; simp at this; omega⟩
          have h := HO'.out
          rw [HST.out]
          simpa [ints, HFL.out] using h
        case measure => simp [intOf]; omega
      · have hbeq : ((x : Int) == o) = false := by simpa using he
        have hst := memTo_miss xs o k (by rw [HX.out]; exact he)
        have HST := hide hst
        clear hst
        go_wp2_with fail
        go_roundw
        case rel => exact ⟨k + 1, by omega, by go_num, HB.out, by rw [HST.out, HFL.out]; exact HO.out, hsz⟩
        case measure => simp [intOf]; omega
    · have hkn : k = n := by omega
      subst hkn
      go_wp2_with fail
      go_ret
      obtain ⟨A', c', hv, hres⟩ := own_shape HO.out
      exact ⟨A', c', by rw [← hv]; rfl, HB.out, hres⟩
end Go.Proofs.Ytgmloaemnbnbgaa
