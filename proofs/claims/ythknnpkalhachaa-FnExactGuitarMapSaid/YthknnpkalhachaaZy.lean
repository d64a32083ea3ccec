import Derived.Test.YthknnpkalhachaaZu
import Derived.Test.YthknnpkalhachaaZq
import Derived.Test.YthknnpkalhachaaZf
import Derived.Test.YthknnpkalhachaaZs
namespace Go.Proofs.Ythknnpkalhachaa
open Go Go.RowKit
open Classical

theorem Rch.trans {rows : List (List Int)} {x y z : Nat} (h : Rch rows x y) (k : Rch rows y z) : Rch rows x z := by
  induction k with
  | start => exact h
  | step _ hs ih => exact .step ih hs

/-- The labels when the elements below k are done, and the number of the next orbit. -/
noncomputable def lab (rows : List (List Int)) : Nat → (Nat → Int) × Nat
  | 0 => (fun _ => -1, 0)
  | x + 1 => if 0 ≤ (lab rows x).1 x then lab rows x else (fun y => if Rch rows x y then ((lab rows x).2 : Int) else (lab rows x).1 y, (lab rows x).2 + 1)
noncomputable def labL (rows : List (List Int)) (n k : Nat) : List Int := (List.range n).map (lab rows k).1
theorem labL_length (rows : List (List Int)) (n k : Nat) : (labL rows n k).length = n := by simp [labL]
theorem labL_at (rows : List (List Int)) (n k y : Nat) (h : y < n) : (labL rows n k).getD y 0 = (lab rows k).1 y := by simp [labL, h]
theorem lab_le (rows : List (List Int)) (k : Nat) : (lab rows k).2 ≤ k := by
  induction k with
  | zero => simp [lab]
  | succ k ih =>
    unfold lab
    split
    · omega
    · show (lab rows k).2 + 1 ≤ k + 1; omega
theorem lab_lo (rows : List (List Int)) (k y : Nat) : -1 ≤ (lab rows k).1 y ∧ (lab rows k).1 y ≤ k := by
  induction k with
  | zero => simp [lab]
  | succ k ih =>
    unfold lab
    split
    · omega
    · have := lab_le rows k
      show -1 ≤ (if Rch rows k y then ((lab rows k).2 : Int) else (lab rows k).1 y) ∧ (if Rch rows k y then ((lab rows k).2 : Int) else (lab rows k).1 y) ≤ _
      split <;> omega

/-- Rows of permutations of n elements. -/
def Gens (rows : List (List Int)) (n : Nat) : Prop := ∀ r, r < rows.length → (rows.getD r []).length = n ∧ Prm (rows.getD r [])
theorem Gens.at {rows : List (List Int)} {n : Nat} (h : Gens rows n) {r v : Nat} (hr : r < rows.length) (hv : v < n) : 0 ≤ (rows.getD r []).getD v 0 ∧ (rows.getD r []).getD v 0 < (n : Int) := by
  obtain ⟨hl, hp⟩ := h r hr
  obtain ⟨p, hpe⟩ : ∃ p, p = rows.getD r [] := ⟨_, rfl⟩
  rw [← hpe] at hl hp ⊢
  have hm : p.getD v 0 ∈ p := by have : v < p.length := (by omega); simp [this]
  have := hp.2.2.1 _ hm
  rw [hl] at this
  exact this
theorem Gens.inj {rows : List (List Int)} {n : Nat} (h : Gens rows n) {r u v : Nat} (hr : r < rows.length) (hu : u < n) (hv : v < n) (e : ((rows.getD r []).getD u 0).toNat = ((rows.getD r []).getD v 0).toNat) : u = v := by
  have h1 := h.at hr hu
  have h2 := h.at hr hv
  obtain ⟨hl, hp⟩ := h r hr
  obtain ⟨p, hpe⟩ : ∃ p, p = rows.getD r [] := ⟨_, rfl⟩
  rw [← hpe] at hl hp e h1 h2
  have e2 : p.getD u 0 = p.getD v 0 := by omega
  have hul : u < p.length := by omega
  have hvl : v < p.length := by omega
  have e3 : p[u] = p[v] := by simpa [hul, hvl] using e2
  have hpw := List.pairwise_iff_getElem.1 hp.2.2.2
  rcases Nat.lt_trichotomy u v with h | h | h
  · exact absurd e3 (hpw u v hul hvl h)
  · exact h
  · exact absurd e3.symm (hpw v u hvl hul h)
theorem Gens.stay {rows : List (List Int)} {n : Nat} (h : Gens rows n) {x y : Nat} (hx : x < n) (hr : Rch rows x y) : y < n := by
  induction hr with
  | start => exact hx
  | step _ hs ih =>
    obtain ⟨r, hr, e⟩ := hs
    have := h.at hr ih
    omega
theorem Gens.back {rows : List (List Int)} {n : Nat} (h : Gens rows n) {x y z : Nat} (hx : x < n) (hy : y < n) (hs : stp rows y z) (hz : Rch rows x z) : Rch rows x y := by
  obtain ⟨r, hr, e⟩ := hs
  let l : List Nat := (List.range n).filter (fun v => decide (Rch rows x v))
  have hl : l.Nodup := List.Pairwise.filter _ List.nodup_range
  have hml : ∀ v, v ∈ l ↔ v < n ∧ Rch rows x v := fun v => by simp [l]
  let f : Nat → Nat := fun v => ((rows.getD r []).getD v 0).toNat
  have hnd : (l.map f).Nodup := by
    rw [List.nodup_iff_pairwise_ne, List.pairwise_map]
    refine List.Pairwise.imp_of_mem ?_ (List.nodup_iff_pairwise_ne.1 hl)
    intro a b ha hb hne e2
    exact hne (h.inj hr ((hml a).1 ha).1 ((hml b).1 hb).1 e2)
  have hsub : ∀ a ∈ l.map f, a ∈ l := by
    intro a ha
    obtain ⟨v, hv, rfl⟩ := List.mem_map.1 ha
    have hv' := (hml v).1 hv
    have hr' : Rch rows x (f v) := .step hv'.2 ⟨r, hr, rfl⟩
    exact (hml _).2 ⟨h.stay hx hr', hr'⟩
  obtain ⟨l', hl'⟩ := subset_perm (l.map f) l hnd hsub
  have hlen := hl'.length_eq
  rw [List.length_append, List.length_map] at hlen
  have h0 : l' = [] := List.eq_nil_of_length_eq_zero (by omega)
  subst h0
  rw [List.append_nil] at hl'
  have hzl : z ∈ l := (hml z).2 ⟨h.stay hx hz, hz⟩
  obtain ⟨y', hy', e'⟩ := List.mem_map.1 (hl'.mem_iff.1 hzl)
  have hy2 := (hml y').1 hy'
  have : y = y' := h.inj hr hy hy2.1 (by rw [e]; exact e'.symm)
  rw [this]
  exact hy2.2
theorem lab_closed {rows : List (List Int)} {n : Nat} (h : Gens rows n) (k : Nat) (hk : k ≤ n) (y z : Nat) (hy : y < n) (hs : stp rows y z) : 0 ≤ (lab rows k).1 y ↔ 0 ≤ (lab rows k).1 z := by
  induction k with
  | zero => simp [lab]
  | succ k ih =>
    have ih := ih (by omega)
    unfold lab
    split
    · exact ih
    · show 0 ≤ (if Rch rows k y then ((lab rows k).2 : Int) else (lab rows k).1 y) ↔ 0 ≤ (if Rch rows k z then ((lab rows k).2 : Int) else (lab rows k).1 z)
      by_cases h1 : Rch rows k y
      · rw [if_pos h1, if_pos (.step h1 hs)]
      · have h2 : ¬ Rch rows k z := fun h2 => h1 (h.back (by omega) hy hs h2)
        rw [if_neg h1, if_neg h2]
        exact ih
theorem Sys.gens {n : Nat} {rows : List (List Int)} (h : Sys (n : Int) rows) : Gens rows n := fun r hr => ⟨by have := (h.2.2.2 r hr).1; omega, (h.2.2.2 r hr).2⟩
def OrbRes (n : Int) (rows : List (List Int)) (zs : List Int) (code : Int) : Prop := (Sys n rows ∧ zs = labL rows n.toNat n.toNat ∧ code = 0) ∨ (¬ Sys n rows ∧ zs = [] ∧ code = 1)
theorem OrbRes.ex (n : Int) (rows : List (List Int)) : ∃ zs code, OrbRes n rows zs code ∧ zs.length ≤ 4194304 := by
  by_cases h : Sys n rows
  · exact ⟨_, _, .inl ⟨h, rfl, rfl⟩, by rw [labL_length]; have := h.2.1; omega⟩
  · exact ⟨_, _, .inr ⟨h, rfl, rfl⟩, by simp⟩
end Go.Proofs.Ythknnpkalhachaa
namespace Go.Proofs.Ythknnpkalhachaa
open Go Go.RowKit
set_option maxHeartbeats 2000000

theorem nonF_iff {f s : List (List Int)} {n : Nat} (hn : f.length = n) (hs : s.length = n) : NonF f s ↔ ∀ x, x < n → Prm (f.getD x []) ∧ Prm (colL s x) := by
  unfold NonF AllPrm
  rw [turnL_length, hn, hs]
  constructor
  · rintro ⟨h1, h2⟩ x hx
    refine ⟨h1 x hx, ?_⟩
    have h := h2 x hx
    rw [turnL_row _ _ (by omega)] at h
    exact h
  · intro h
    refine ⟨fun x hx => (h x hx).1, fun x hx => ?_⟩
    rw [turnL_row _ _ (by omega)]
    exact (h x hx).2

set_option maxRecDepth 100000 in
theorem plainS_any (A : Option Addr) (n c : Nat) (f : List (List Int)) (B : Option Addr) (m d : Nat) (s : List (List Int)) (r : Bool) (w : World) (hz : ZArg 1048576 w A n f B m s) (hp : PMap f s) (hr : r = true ↔ NonF f s) :
    Calls Try.prog 117 #[.agg #[.slice A n c, .slice B m d]] w fun e w' => e = .returned (.bool r) ∧ Below w.heap.size w w' := by
  obtain rfl := (hz.same hp).symm
  have HZ := hide hz
  have HN := hide hz.sz.fl
  have HSN := hide hz.sz.sl
  have HP := hide hp
  have h12 := (hz.small hp).2
  have HR := hide (hr.trans (nonF_iff hz.sz.fl hz.sz.sl))
  have HB0 := hide ((Below.refl _ w).alloc (Nat.le_refl _) (Obj.cells #[Value.slice A n c, Value.slice B n d] 27))
  have HK0 := hide (Blk.new w 27 [.slice A n c, .slice B n d])
  clear hz hp hr
  go_enter Try.func117, Try.ntmps117
  go_wp2_with fail
  go_loopw [3] (fun i wr => ∃ k : Nat, k ≤ n ∧ i = .int .i64 k ∧ Below w.heap.size w wr ∧ Blk wr w.heap.size 27 [.slice A n c, .slice B n d] ∧ ∀ i, i < k → Prm (f.getD i []) ∧ Prm (colL s i)) (fun i _ => n - (intOf i).toNat)
  case atStart => exact ⟨0, Nat.zero_le _, rfl, HB0.out, HK0.out, fun i hi => absurd hi (Nat.not_lt_zero _)⟩
  case round =>
    obtain ⟨k, hk, rfl, hbe, hkk, hall⟩ := hrel
    have HB := hide hbe
    have HK := hide hkk
    have HALL := hide hall
    clear hbe hkk hall
    have k0 := HK.out.cell 0 _ rfl
    have k1 := HK.out.cell 1 _ rfl
    by_cases hlt : k < n
    · have hkz : (k : Int) < n := by omega
      obtain ⟨b, o, hA, hbw, hc⟩ := rd_rows HP.out.1 HZ.out.fst HN.out
      obtain ⟨Bx, cx, j1, hrd⟩ := hc k hlt
      replace j1 := (HB.out.cell (p := ⟨b, o + k, none⟩) hbw).trans j1
      have HL : Hid ((f.getD k []).length = n) := hide (HP.out.1.row_len HN.out hlt)
      have HRX := hide (hrd.later HB.out)
      have HCL : Hid ((colL s k).length = n) := hide ((colL_length _ _).trans HSN.out)
      obtain ⟨r1, hr1⟩ : ∃ r : Bool, r = true ↔ Prm (f.getD k []) := bool_of _
      obtain ⟨r2, hr2⟩ : ∃ r : Bool, r = true ↔ Prm (colL s k) := bool_of _
      have HR1 := hide hr1
      have HR2 := hide hr2
      subst hA
      clear hc hrd hr1 hr2
      go_wp2_with fail
      clear j1 k0 k1
      refine (prmS_below _ n _ (f.getD k []) r1 _ HL.out (by omega) HRX.out HR1.out).mono ?_
      rintro e w1 ⟨rfl, hb1⟩
      have HB1 := hide (HB.out.trans (hb1.mono HB.out.size))
      have HK1 := hide (HK.out.later hb1)
      clear hb1
      have k0 := HK1.out.cell 0 _ rfl
      have k1 := HK1.out.cell 1 _ rfl
      cases r1 with
      | false =>
        have hrf : r = false := by
          cases r
          · rfl
          · exact absurd (HR1.out.2 (HR.out.1 rfl k hlt).1) (by simp)
        subst hrf
        go_wp2_with fail
        go_ret
        exact ⟨rfl, HB1.out⟩
      | true =>
        go_wp2_with fail
        clear k0 k1
        refine (l01Column_any B n d n k s _ HSN.out (by omega) (by omega) (fun i hi => HP.out.2.1.row_len HSN.out (by have := HSN.out; omega)) hlt (HZ.out.later HB1.out).snd).mono ?_
        rintro e w2 ⟨A2, c2, rfl, hb2, ho2⟩
        have HB2 := hide (HB1.out.trans (hb2.mono HB1.out.size))
        have HK2 := hide (HK1.out.later hb2)
        have HO2 := hide ho2
        clear hb2 ho2
        go_wp2_with fail
        refine (prmS_below _ n _ (colL s k) r2 _ HCL.out (by omega) HO2.out.obj.rd HR2.out).mono ?_
        rintro e w3 ⟨rfl, hb3⟩
        have HB3 := hide (HB2.out.trans (hb3.mono HB2.out.size))
        have HK3 := hide (HK2.out.later hb3)
        clear hb3
        cases r2 with
        | false =>
          have hrf : r = false := by
            cases r
            · rfl
            · exact absurd (HR2.out.2 (HR.out.1 rfl k hlt).2) (by simp)
          subst hrf
          go_wp2_with fail
          go_ret
          exact ⟨rfl, HB3.out⟩
        | true =>
          go_wp2_with fail
          go_roundw
          case rel => exact ⟨k + 1, by omega, by go_num, HB3.out, HK3.out, fun i hi => by
            by_cases e : i = k
            · rw [e]; exact ⟨HR1.out.1 (by simp), HR2.out.1 (by simp)⟩
            · exact HALL.out i (by omega)⟩
          case measure => simp [intOf]; omega
    · have hkn : k = n := by omega
      subst hkn
      have hrt : r = true := HR.out.2 HALL.out
      subst hrt
      go_wp2_with fail
      go_ret
      exact ⟨rfl, HB.out⟩
end Go.Proofs.Ythknnpkalhachaa
