import Derived.Test.YtljdfanebjhhmaaZav
import Derived.Test.YtljdfanebjhhmaaZv
import Derived.Test.YtljdfanebjhhmaaZb
import Derived.Test.YtljdfanebjhhmaaZp
import Derived.Test.YtljdfanebjhhmaaZt
namespace Go.Proofs.Ytljdfanebjhhmaa
open Go Go.RowKit
theorem quiet_below {P : Program} {F : FuncId} {args : Array Value} {w : World} {v : Ending} (h : Calls P F args w fun e w' => e = v ∧ Quiet w w') : Calls P F args w fun e w' => e = v ∧ Below w.heap.size w w' := h.mono fun _ _ ⟨he, hq⟩ => ⟨he, hq.below _⟩
/-- Strictly increasing. -/
def Incr (xs : List Int) : Prop := ∀ i, 1 ≤ i → i < xs.length → xs.getD (i - 1) 0 < xs.getD i 0
theorem Incr.ge {n : Nat} {xs : List Int} (h : Incr xs) (he : Els n xs) (i : Nat) (hi : i < xs.length) : (i : Int) ≤ xs.getD i 0 := by
  induction i with
  | zero => exact (he 0 hi).1
  | succ i ih =>
    have h1 := ih (by omega)
    have h2 := h (i + 1) (by omega) hi
    rw [show i + 1 - 1 = i by omega] at h2
    omega
theorem Incr.len {n : Nat} {xs : List Int} (h : Incr xs) (he : Els n xs) : xs.length ≤ n := by
  by_cases h0 : xs.length = 0
  · omega
  · have h1 := h.ge he (xs.length - 1) (by omega)
    have h2 := (he (xs.length - 1) (by omega)).2
    omega
def rtH (f : List (List Int)) (xs : List Int) : Nat → Nat → Int := fun x y => ixOf xs (ap f (el xs x) (el xs y) : Nat)
def RtRes (f : List (List Int)) (xs : List Int) (zs : List (List Int)) (code : Int) : Prop :=
  ((Rck f ∧ Els f.length xs ∧ Incr xs) ∧ SubF f (sN xs xs.length) ∧ zs = grid xs.length (rtH f xs) ∧ code = 0) ∨ ((Rck f ∧ Els f.length xs ∧ Incr xs) ∧ ¬ SubF f (sN xs xs.length) ∧ zs = [] ∧ code = 5) ∨ (Rck f ∧ ¬ Els f.length xs ∧ zs = [] ∧ code = 2) ∨ (Rck f ∧ Els f.length xs ∧ ¬ Incr xs ∧ zs = [] ∧ code = 2) ∨ (¬ Rck f ∧ zs = [] ∧ code = 1)
theorem RtRes.ex (f : List (List Int)) (xs : List Int) : ∃ zs code, RtRes f xs zs code ∧ zs.length ≤ 1048576 ∧ ∀ i, i < zs.length → (zs.getD i []).length ≤ 1048576 := by
  by_cases h1 : Rck f
  · by_cases h2 : Els f.length xs
    · by_cases h3 : Incr xs
      · by_cases h4 : SubF f (sN xs xs.length)
        · have hl := h3.len h2
          have h12 := h1.tbl.2.1
          refine ⟨_, _, .inl ⟨⟨h1, h2, h3⟩, h4, rfl, rfl⟩, by rw [grid_length]; omega, fun i hi => ?_⟩
          rw [grid_length] at hi
          rw [grid_row_length _ _ _ hi]; omega
        · exact ⟨_, _, .inr (.inl ⟨⟨h1, h2, h3⟩, h4, rfl, rfl⟩), by simp, by simp⟩
      · exact ⟨_, _, .inr (.inr (.inr (.inl ⟨h1, h2, h3, rfl, rfl⟩))), by simp, by simp⟩
    · exact ⟨_, _, .inr (.inr (.inl ⟨h1, h2, rfl, rfl⟩)), by simp, by simp⟩
  · exact ⟨_, _, .inr (.inr (.inr (.inr ⟨h1, rfl, rfl⟩))), by simp, by simp⟩
theorem ixOf_bounds (xs : List Int) (v : Int) (hn : xs.length ≤ 12) : -1 ≤ ixOf xs v ∧ ixOf xs v ≤ 12 := by
  unfold ixOf
  split
  · have := List.idxOf_le_length (a := v) (l := xs); omega
  · omega
theorem ixOf_ge (xs : List Int) (v : Int) : 0 ≤ ixOf xs v ↔ v ∈ xs := by
  unfold ixOf
  split
  · rename_i h; exact ⟨fun _ => h, fun _ => by omega⟩
  · rename_i h; exact ⟨fun h2 => by omega, fun h2 => absurd h2 h⟩
theorem ixOf_lt (xs : List Int) (v : Int) (h : v ∈ xs) : ixOf xs v < (xs.length : Int) := by
  unfold ixOf
  rw [if_pos h]
  have := List.idxOf_lt_length_of_mem h
  omega
theorem in_list {n : Nat} {xs : List Int} (he : Els n xs) (v : Nat) : (v : Int) ∈ xs ↔ inb (sN xs xs.length) v := by
  rw [sN_in]
  constructor
  · intro h
    obtain ⟨i, hi, e⟩ := List.getElem_of_mem h
    refine ⟨i, hi, ?_⟩
    have h2 := (he.val hi).1
    have h3 : xs.getD i 0 = (v : Int) := by simp [hi, e]
    omega
  · rintro ⟨i, hi, e⟩
    have h2 := (he.val hi).1
    have h3 : xs.getD i 0 = xs[i] := by simp [hi]
    rw [← e, ← h2, h3]
    exact List.getElem_mem hi
/-- The table of the part is a table exactly if the elements are a subrack. -/
theorem rt_iff {f : List (List Int)} {n : Nat} {xs : List Int} (he : Els n xs) (hi : Incr xs) (h12 : n ≤ 12) : Tbl (grid xs.length (rtH f xs)) ↔ SubF f (sN xs xs.length) := by
  have hl := hi.len he
  constructor
  · rintro ⟨h1, _, h3⟩
    rw [grid_length] at h1 h3
    refine ⟨sN_ne (by omega), fun a b ha hb => ?_⟩
    obtain ⟨i, hi', rfl⟩ := (sN_in _ _ _).1 ha
    obtain ⟨j, hj', rfl⟩ := (sN_in _ _ _).1 hb
    have h4 := (h3 i hi').2 j hj'
    rw [grid_at _ _ _ _ hi' hj'] at h4
    exact (in_list he _).1 ((ixOf_ge _ _).1 h4.1)
  · rintro ⟨h0, hc⟩
    have hpos : 1 ≤ xs.length := by
      by_cases e : xs.length = 0
      · rw [e] at h0; exact absurd rfl h0
      · omega
    refine ⟨by rw [grid_length]; exact hpos, by rw [grid_length]; omega, fun i hi' => ?_⟩
    rw [grid_length] at hi' ⊢
    refine ⟨grid_row_length _ _ _ hi', fun j hj => ?_⟩
    rw [grid_at _ _ _ _ hi' hj]
    have hm : ((ap f (el xs i) (el xs j) : Nat) : Int) ∈ xs := (in_list he _).2 (hc _ _ ((sN_in _ _ _).2 ⟨i, hi', rfl⟩) ((sN_in _ _ _).2 ⟨j, hj, rfl⟩))
    exact ⟨(ixOf_ge _ _).2 hm, ixOf_lt _ _ hm⟩
theorem rt_iff2 {f : List (List Int)} {n m : Nat} {xs : List Int} (he : Els n xs) (hi : Incr xs) (h12 : n ≤ 12) (hm : xs.length = m) : Tbl (grid m (rtH f xs)) ↔ SubF f (sN xs m) := by
  subst hm
  exact rt_iff he hi h12
end Go.Proofs.Ytljdfanebjhhmaa
namespace Go.Proofs.Ytljdfanebjhhmaa
open Go Go.RowKit
set_option maxHeartbeats 4000000

set_option maxRecDepth 100000 in
theorem l04Quot_any (A : Option Addr) (n c : Nat) (f : List (List Int)) (B : Option Addr) (m d : Nat) (xs : List Int) (w : World) (hn : f.length = n) (ht : Tbl f) (hr : Rd2 w A f) (hm : xs.length = m) (hx : Rd w B xs) (hp : Part f xs) (K : Nat) (hK : nxt xs m = K) :
    Calls Try.prog 54 #[.slice A n c, .slice B m d] w fun e w' => ∃ A' c', e = .returned (.slice A' K c') ∧ Below w.heap.size w w' ∧ Obj2 33 2 w.heap.size w'.heap.size w' A' (grid K (quH f xs)) := by
  have h1 : 1 ≤ n := by rw [← hn]; exact ht.1
  have h12 : n ≤ 12 := by rw [← hn]; exact ht.2.1
  have hmn : m = n := by rw [← hm, hp.1, hn]
  subst hmn
  obtain ⟨b, o, hB, hbw, hc⟩ := hx (by omega)
  subst hB
  obtain ⟨bt, ot, hA, hbt, hct⟩ := ht.cells hr hn
  subst hA
  have HC : Hid (∀ i : Nat, i < m → w.cell? ⟨b, o + i, none⟩ = some (.int .i64 (cl xs i)) ∧ cl xs i < m) := hide (fun i hi => by
    have h := hp.2.val (i := i) (by omega)
    rw [hm] at h
    exact ⟨by rw [← h.1]; exact hc i (by omega), h.2⟩)
  have HT := hide hct
  have HN := hide hn
  have HM := hide hm
  have HTB := hide ht
  have HCN := hide hp.2
  have hKm : K ≤ m := by rw [← hK]; exact nxt_le xs m
  have HK := hide hK
  obtain ⟨H, hH⟩ : ∃ H, quH f xs = H := ⟨_, rfl⟩
  rw [hH]
  have HH := hide hH
  clear hn ht hr hm hp hc hct hx hK hH
  have HNL : Hid (∀ i, i ≤ m → nxt xs i ≤ K) := hide (fun i hi => by rw [← HK.out]; exact nxt_mono xs i m hi)
  obtain ⟨i0, hi, hz0, hz1, hz2⟩ := info_parts neInfo
  obtain ⟨i2, hj, hy0, hy1, hy2⟩ := info_parts neInfo2
  go_enter Try.func54, Try.ntmps54
  go_wp2_with fail
  go_loopw [5, 6] (fun v i wr => ∃ (x : Nat) (vals : List Value), x ≤ m ∧ i = .int .i64 x ∧ Below w.heap.size w wr ∧ LstV 33 2 w.heap.size wr v ((grid K H).take (nxt xs x)) vals ∧ w.heap.size ≤ wr.heap.size) (fun _ i _ => m - (intOf i).toNat)
  case atStart => exact ⟨0, [], Nat.zero_le _, rfl, (Below.refl _ _).alloc (Nat.le_refl _) _, by simpa [nxt] using LstV.start w _ _, by simp⟩
  case round =>
    obtain ⟨x, vals, hx, rfl, hbe, hlst, hsz⟩ := hrel
    have HB := hide hbe
    have HL := hide hlst
    clear hbe hlst
    by_cases hlt : x < m
    · have hxz : (x : Int) < m := by omega
      have hkx := HNL.out x (by omega)
      have HTM : Hid (((grid K H).take (nxt xs x)).length = nxt xs x) := hide (by rw [List.length_take, grid_length]; omega)
      obtain ⟨Ao, co, hvo, _⟩ := HL.out.shape
      rw [HTM.out] at hvo
      subst hvo
      have hcx := (HC.out x hlt).1
      have hcm := (HC.out x hlt).2
      obtain ⟨a, ha⟩ : ∃ a, cl xs x = a := ⟨_, rfl⟩
      rw [ha] at hcx hcm
      have c0 := (HB.out.cell (p := ⟨b, o + x, none⟩) hbw).trans hcx
      have HA := hide ha
      have hnn : Hid (x < xs.length) := hide (by have := HM.out; omega)
      have hnew : a = nxt xs x → nxt xs (x + 1) = nxt xs x + 1 ∧ fstc xs (nxt xs x) = x := fun e => ⟨nxt_new HCN.out hnn.out (by rw [HA.out]; exact e), fstc_new HCN.out hnn.out (by rw [HA.out]; exact e)⟩
      have hold : a ≠ nxt xs x → nxt xs (x + 1) = nxt xs x ∧ a < nxt xs x := fun e => by have h := nxt_old HCN.out hnn.out (by rw [HA.out]; exact e); rw [HA.out] at h; exact h
      have hk1 := HNL.out (x + 1) (by omega)
      obtain ⟨q, hq⟩ : ∃ q, nxt xs x = q := ⟨_, rfl⟩
      rw [hq] at hnew hold hkx HTM HL ⊢
      have HQ := hide hq
      clear ha hcx hq
      by_cases he : a = q
      · have hn1 := (hnew he).1
        rw [hn1] at hk1
        have HN1 := hide hn1
        have HFS := hide (hnew he).2
        have hql : q < K := by omega
        have haz : ¬ (a : Int) < q := by omega
        clear hnew hold hn1 he
        go_wp2_with fail
        clear c0
        obtain ⟨wo, rfl⟩ : ∃ wo : World, wo = wr := ⟨_, rfl⟩
        go_loopw [7, 8] (fun v i wi => ∃ y : Nat, y ≤ m ∧ i = .int .i64 y ∧ Below wo.heap.size wo wi ∧ wo.heap.size < wi.heap.size ∧ wi.ownsRow wo.heap.size 2 1 v (nxt xs y) (ints ((frow K H q).take (nxt xs y)))) (fun _ i _ => m - (intOf i).toNat)
        case atStart => exact ⟨0, Nat.zero_le _, rfl, (Below.refl _ _).alloc (Nat.le_refl _) _, by simp, by simpa [ints, nxt] using ne_empty wo _⟩
        case round =>
          obtain ⟨y, hy, rfl, hbi, hsi2, hoi⟩ := hrel
          have HBI := hide hbi
          have HOI := hide hoi
          clear hbi hoi
          by_cases hlty : y < m
          · have hyz : (y : Int) < m := by omega
            have HBW := hide (HB.out.trans (HBI.out.mono HB.out.size))
            have hky := HNL.out y (by omega)
            have hky1 := HNL.out (y + 1) (by omega)
            obtain ⟨Ar, cr, hvr, _⟩ := own_shape HOI.out
            subst hvr
            have hcy := (HC.out y hlty).1
            obtain ⟨a2, ha2⟩ : ∃ a, cl xs y = a := ⟨_, rfl⟩
            rw [ha2] at hcy
            have c0 := (HBW.out.cell (p := ⟨b, o + y, none⟩) hbw).trans hcy
            have HA2 := hide ha2
            have hnn2 : Hid (y < xs.length) := hide (by have := HM.out; omega)
            have hnew : a2 = nxt xs y → nxt xs (y + 1) = nxt xs y + 1 ∧ fstc xs (nxt xs y) = y := fun e => ⟨nxt_new HCN.out hnn2.out (by rw [HA2.out]; exact e), fstc_new HCN.out hnn2.out (by rw [HA2.out]; exact e)⟩
            have hold : a2 ≠ nxt xs y → nxt xs (y + 1) = nxt xs y := fun e => (nxt_old HCN.out hnn2.out (by rw [HA2.out]; exact e)).1
            have hymx := nxt_le xs y
            obtain ⟨p, hpq⟩ : ∃ p, nxt xs y = p := ⟨_, rfl⟩
            rw [hpq] at hnew hold hky HOI hymx ⊢
            clear ha2 hcy hpq
            by_cases he2 : a2 = p
            · subst he2
              have hn2 := (hnew rfl).1
              have hf2 := (hnew rfl).2
              rw [hn2] at hky1
              have HN2 := hide hn2
              have hs1 := HTB.out.ap_lt HN.out hlt hlty
              obtain ⟨bx, ox, cx, rx, lx, gx⟩ := HT.out x hlt
              have t1 := gx y hlty
              obtain ⟨s1, e1⟩ : ∃ u, ap f x y = u := ⟨_, rfl⟩
              rw [e1] at t1 hs1
              have d1 := (HC.out s1 hs1).1
              have hpr : H q a2 = (cl xs s1 : Int) := by rw [← HH.out]; unfold quH; rw [HFS.out, hf2, e1]
              obtain ⟨v1, f1⟩ : ∃ u, cl xs s1 = u := ⟨_, rfl⟩
              rw [f1] at d1 hpr
              have HCELL := hide hpr
              replace rx := (HBW.out.cell (p := ⟨bt, ot + x, none⟩) hbt).trans rx
              replace t1 := (HBW.out.cell (p := ⟨bx, ox + y, none⟩) lx).trans t1
              replace d1 := (HBW.out.cell (p := ⟨b, o + s1, none⟩) hbw).trans d1
              have z1 : (s1 : Int) < m := by omega
              have hpl : a2 < K := by omega
              clear gx e1 f1 hpr hnew hold hf2 hn2
              go_wp2_with (at_builtin; refine wpList_append_own _ rfl _ _ 33 rfl wo.heap.size 2 i0 (.int .i64 0) 1 8 Try.underlying33 hi hz0 hz1 hz2 rfl (by decide) _ _ _ rfl (HOI.out.alloc _) ⟨wr.heap.size, 0, none⟩ 1 1 [.int .i64 (v1 : Int)] rfl rfl ?a1 ?a2 ?a3 ?a4 ?a5 ?_)
              try (case a1 => exact ne_new)
              try (case a2 => first | rfl | (intro u hu; simp at hu; subst hu; rfl))
              try (case a3 => first | omega | (unfold maxLen; omega))
              try (case a4 => omega)
              try (case a5 => first | omega | (simp; omega))
              intro v' w3 hown' hgrow _
              have HO3 := hide hown'
              have HB3 : Hid (Below wo.heap.size wo w3) := hide ((HBI.out.alloc HBI.out.size _).grown hgrow (by have := HBI.out.size; simp; omega) (fun g hg => ((HOI.out.alloc (.cells #[.int .i64 (v1 : Int)] 2)).lt g hg).1))
              have hs3 : wo.heap.size < w3.heap.size := by have := hgrow.size; simp at this; omega
              clear hown' hgrow
              go_wp2_with fail
              go_roundw
              case rel => exact ⟨y + 1, by omega, by go_num, HB3.out, hs3, by have h := HO3.out; rw [← HCELL.out, frow_take _ _ _ _ hpl] at h; rw [HN2.out]; exact h⟩
              case measure => simp [intOf]; omega
            · have hne : ((a2 : Int) == (p : Int)) = false := by simpa using fun h => he2 (by omega)
              have HN2 := hide (hold he2)
              clear hnew hold he2
              go_wp2_with fail
              go_roundw
              case rel => exact ⟨y + 1, by omega, by go_num, HBI.out, hsi2, by rw [HN2.out]; exact HOI.out⟩
              case measure => simp [intOf]; omega
          · have hyn : y = m := by omega
            subst hyn
            rw [HK.out] at HOI
            obtain ⟨A2, c2, hv2, hres2⟩ := own_shape HOI.out
            subst hv2
            have HRO := hide hres2.obj
            have HL3 := hide (HL.out.later HBI.out)
            have HRL : Hid ((frow K H q).length = K) := hide (frow_length _ _ _)
            have HTK : Hid ((frow K H q).take K = frow K H q) := hide (List.take_of_length_le (by rw [HRL.out]; exact Nat.le_refl _))
            have HOW2 : Hid (wr.ownsRow w.heap.size 33 1 (.slice Ao q co) q vals) := hide (by have h := HL3.out.own; rw [HTM.out] at h; exact h)
            have hs3 : w.heap.size ≤ wr.heap.size := by have := HBI.out.size; omega
            clear hres2
            go_wp2_with (at_builtin; refine wpList_append_own _ rfl _ _ 22 rfl w.heap.size 33 i2 (.slice none 0 0) 1 24 Try.underlying22 hj hy0 hy1 hy2 rfl (by decide) _ _ _ rfl (HOW2.out.alloc _) ⟨wr.heap.size, 0, none⟩ 1 1 [.slice A2 K c2] rfl rfl ?p1 ?p2 ?p3 ?p4 ?p5 ?_)
            try (case p1 => exact ne_new)
            try (case p2 => first | rfl | (intro u hu; simp at hu; subst hu; rfl))
            try (case p3 => first | omega | (unfold maxLen; omega))
            try (case p4 => omega)
            try (case p5 => first | omega | (simp; omega))
            intro v' w7 hown7 hgrow7 _
            have HO7 := hide hown7
            have HG7 := hide hgrow7
            clear hown7 hgrow7
            go_wp2_with fail
            go_roundw
            case rel =>
              have hB7 : Below w.heap.size w w7 := ((HB.out.trans (HBI.out.mono HB.out.size)).alloc hs3 _).grown HG7.out (by simp; omega) (fun g hg => (HOW2.out.alloc (.cells #[.slice A2 K c2] 33)).lt g hg |>.1)
              have hpush := LstV.push (tmp := .cells #[.slice A2 K c2] 33) (A := A2) (c := c2) (r := frow K H q) (w1 := w7) (v' := v') (by decide) hsz HL.out HBI.out (by have h := HRO.out; rw [HTK.out] at h; exact h) (by rw [HTM.out, HRL.out]; exact HO7.out) HG7.out
              refine ⟨x + 1, vals ++ [.slice A2 (frow K H q).length c2], by omega, by go_num, hB7, ?_, by have := hB7.size; omega⟩
              rw [HN1.out, grid_take _ _ _ hql]
              exact hpush
            case measure => simp [intOf]; omega
      · have ho := hold he
        have hn1 := ho.1
        have HN1 := hide hn1
        have haz : (a : Int) < q := by have := ho.2; omega
        clear hnew hold he ho hn1
        go_wp2_with fail
        go_roundw
        case rel => exact ⟨x + 1, vals, by omega, by go_num, HB.out, by rw [HN1.out]; exact HL.out, hsz⟩
        case measure => simp [intOf]; omega
    · have hxn : x = m := by omega
      subst hxn
      go_wp2_with fail
      have h := HL.out
      rw [HK.out, List.take_of_length_le (by rw [grid_length]; exact Nat.le_refl _)] at h
      go_ret
      obtain ⟨A', c', hv, hobj⟩ := h.shape
      rw [grid_length] at hv
      exact ⟨A', c', by rw [← hv]; rfl, HB.out, hobj⟩
end Go.Proofs.Ytljdfanebjhhmaa
