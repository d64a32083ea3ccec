import Derived.Test.YtelildgngkajnaaZam
import Derived.Test.YtelildgngkajnaaZal
import Derived.Test.YtelildgngkajnaaZab
import Derived.Test.YtelildgngkajnaaZo
import Derived.Test.YtelildgngkajnaaZj
import Derived.Test.YtelildgngkajnaaZu
import Derived.Test.YtelildgngkajnaaZn
import Derived.Deep.AppendLies
namespace Go.Proofs.Ytelildgngkajnaa
open Go Go.RowKit
set_option maxHeartbeats 1000000
section
variable {w w' : World} {B sz n : Nat} {t : TypeId} {v : Value} {xs : List Value}
theorem ow2_below (h : w.ownsRow B t sz v n xs) (hb : Below w.heap.size w w') : w'.ownsRow B t sz v n xs := by
  refine ⟨h.1, ?_⟩
  rcases h.2 with h2 | ⟨g, cap, cur, hv, hg, hh, r⟩
  · exact .inl h2
  · exact .inr ⟨g, cap, cur, hv, hg, (hb.block g (Array.getElem?_eq_some_iff.1 hh).1).trans hh, r⟩
end
theorem prs_of_owns {w : World} {B q N : Nat} {t : TypeId} {v : Value} (hN : 1 ≤ N) (h : w.ownsRow B t 2 v N (pcells q N)) : ∃ g c, v = .slice (some ⟨g, 0, none⟩) N c ∧ PrsAt w g N (fun i => .int .i64 (i / q : Nat)) (fun i => .int .i64 (i % q : Nat)) := by
  obtain ⟨h1, h2⟩ := h
  rcases h2 with ⟨_, h0⟩ | ⟨g', cap, cur, hv, hg, hh, a1, a2, a3, a4⟩
  · omega
  · refine ⟨g', cap, hv, (Array.getElem?_eq_some_iff.1 hh).1, fun k hk => ?_⟩
    have hp := pcells_at q N k (by omega)
    rw [← a4, List.getElem?_take, List.getElem?_take, if_pos (by omega), if_pos (by omega)] at hp
    rw [cell_of_row w g' (k * 2) cur t (0, 0) hh, cell_of_row w g' (k * 2 + 1) cur t (0, 0) hh]
    simpa using hp
/-- The product of two groups, by the numbers of the pairs. -/
def pgN (f g : List (List Int)) (m a b : Nat) : Nat := ap f (a / m) (b / m) * m + ap g (a % m) (b % m)
theorem pg_pd (f g : List (List Int)) (m : Nat) : (fun a b => (pgN f g m a b : Int)) = pdH f g m := rfl
theorem div_lt2 {n q i : Nat} (h : i < n * q) : i / q < n := by rw [Nat.mul_comm] at h; exact Nat.div_lt_of_lt_mul h
theorem pg_lt {f g : List (List Int)} {n q a b : Nat} (hn : f.length = n) (ht : Tbl f) (hq : g.length = q) (ht2 : Tbl g) (ha : a < n * q) (hb : b < n * q) : pgN f g q a b < n * q ∧ pgN f g q a b / q = ap f (a / q) (b / q) ∧ pgN f g q a b % q = ap g (a % q) (b % q) := by
  have hq1 : 1 ≤ q := by rw [← hq]; exact ht2.1
  have h1 := ht.ap_lt hn (div_lt2 ha) (div_lt2 hb)
  have h2 := ht2.ap_lt hq (Nat.mod_lt a (by omega : q > 0)) (Nat.mod_lt b (by omega : q > 0))
  refine ⟨?_, pair_div q _ _ h2, pair_mod q _ _ h2⟩
  unfold pgN
  have h3 := Nat.mul_le_mul_right q h1
  rw [Nat.succ_mul] at h3
  omega
theorem pg_ne {q i j : Nat} (hij : i < j) : i / q ≠ j / q ∨ i % q ≠ j % q := by
  by_cases h : i / q = j / q
  · right
    intro h2
    have e1 := Nat.div_add_mod i q
    have e2 := Nat.div_add_mod j q
    rw [h, h2] at e1
    omega
  · exact .inl h
def PgRes (f g : List (List Int)) (zs : List (List Int)) (code : Int) : Prop :=
  ((Grp f ∧ Grp g) ∧ f.length * g.length ≤ 12 ∧ zs = grid (f.length * g.length) (pdH f g g.length) ∧ code = 0) ∨ ((Grp f ∧ Grp g) ∧ ¬ f.length * g.length ≤ 12 ∧ zs = [] ∧ code = 3) ∨ (¬ (Grp f ∧ Grp g) ∧ zs = [] ∧ code = 1)
theorem PgRes.ex (f g : List (List Int)) : ∃ zs code, PgRes f g zs code ∧ zs.length ≤ 1048576 ∧ ∀ i, i < zs.length → (zs.getD i []).length ≤ 1048576 := by
  by_cases hg : Grp f ∧ Grp g
  · by_cases h3 : f.length * g.length ≤ 12
    · refine ⟨_, _, .inl ⟨hg, h3, rfl, rfl⟩, by rw [grid_length]; omega, fun i hi => ?_⟩
      rw [grid_length] at hi
      rw [grid_row_length _ _ _ hi]; omega
    · exact ⟨_, _, .inr (.inl ⟨hg, h3, rfl, rfl⟩), by simp, by simp⟩
  · exact ⟨_, _, .inr (.inr ⟨hg, rfl, rfl⟩), by simp, by simp⟩
end Go.Proofs.Ytelildgngkajnaa
namespace Go.Proofs.Ytelildgngkajnaa
open Go Go.RowKit
set_option maxHeartbeats 4000000

set_option maxRecDepth 100000 in
theorem l04Product_any (A : Option Addr) (n c : Nat) (f : List (List Int)) (C : Option Addr) (q c2 : Nat) (f2 : List (List Int)) (sz : Nat) (w : World) (hn : f.length = n) (ht : Tbl f) (hr : Rd2 w A f) (hn2 : f2.length = q) (ht2 : Tbl f2) (hr2 : Rd2 w C f2) (hsz : n * q = sz) (hle : sz ≤ 12) :
    Calls Try.prog 60 #[.slice A n c, .slice C q c2] w fun e w' => ∃ A' c', e = .returned (.slice A' sz c') ∧ Below w.heap.size w w' ∧ Obj2 48 2 w.heap.size w'.heap.size w' A' (grid sz (pdH f f2 q)) := by
  have h1n : 1 ≤ n := by rw [← hn]; exact ht.1
  have h1q : 1 ≤ q := by rw [← hn2]; exact ht2.1
  have h12n : n ≤ 12 := by rw [← hn]; exact ht.2.1
  have h12q : q ≤ 12 := by rw [← hn2]; exact ht2.2.1
  obtain ⟨b1, o1, hA, hb1w, hc1⟩ := ht.cells hr hn
  obtain ⟨b2, o2, hC, hb2w, hc2⟩ := ht2.cells hr2 hn2
  subst hA
  subst hC
  have HC1 := hide hc1
  have HC2 := hide hc2
  have HT1 := hide ht
  have HT2 := hide ht2
  have HN := hide hn
  have HN2 := hide hn2
  have HSZ := hide hsz
  have hsi : (n : Int) * (q : Int) = (sz : Int) := by rw [← hsz]; simp
  have hwk : IntKind.i64.wrap (sz : Int) = (sz : Int) := IntWalk.i64_in _ (by omega)
  obtain ⟨H, hH⟩ : ∃ H, pdH f f2 q = H := ⟨_, rfl⟩
  rw [hH]
  have HH := hide hH
  clear hH hc1 hc2 hr hr2 ht ht2 hn hn2 hsz
  obtain ⟨i0, hi, hz0, hz1, hz2⟩ := info_parts neInfo
  obtain ⟨i2, hj, hy0, hy1, hy2⟩ := info_parts neInfo2
  go_enter Try.func60, Try.ntmps60
  go_wp2_with fail
  go_loopw [7, 8] (fun v i wr => ∃ (x : Nat) (vals : List Value), x ≤ sz ∧ i = .int .i64 x ∧ Below w.heap.size w wr ∧ LstV 48 2 w.heap.size wr v ((grid sz H).take x) vals ∧ w.heap.size ≤ wr.heap.size) (fun _ i _ => sz - (intOf i).toNat)
  case atStart => exact ⟨0, [], Nat.zero_le _, rfl, (Below.refl _ _).alloc (Nat.le_refl _) _, by simpa using LstV.start w _ _, by simp⟩
  case round =>
    obtain ⟨x, vals, hx, rfl, hbe, hlst, hsz⟩ := hrel
    have HB := hide hbe
    have HL := hide hlst
    clear hbe hlst
    by_cases hlt : x < sz
    · have hxz : (x : Int) < sz := by omega
      go_wp2_with fail
      obtain ⟨wo, rfl⟩ : ∃ wo : World, wo = wr := ⟨_, rfl⟩
      go_loopw [9, 10] (fun v i wi => ∃ y : Nat, y ≤ sz ∧ i = .int .i64 y ∧ Below wo.heap.size wo wi ∧ wo.heap.size < wi.heap.size ∧ wi.ownsRow wo.heap.size 2 1 v y (ints ((frow sz H x).take y))) (fun _ i _ => sz - (intOf i).toNat)
      case atStart => exact ⟨0, Nat.zero_le _, rfl, (Below.refl _ _).alloc (Nat.le_refl _) _, by simp, by simpa [ints] using ne_empty wo _⟩
      case round =>
        obtain ⟨y, hy, rfl, hbi, hsi2, hoi⟩ := hrel
        have HBI := hide hbi
        have HOI := hide hoi
        clear hbi hoi
        by_cases hlty : y < sz
        · have hyz : (y : Int) < sz := by omega
          have HBW := hide (HB.out.trans (HBI.out.mono HB.out.size))
          have hxN : x < n * q := by rw [HSZ.out]; exact hlt
          have hyN : y < n * q := by rw [HSZ.out]; exact hlty
          have hxd : x / q < n := Nat.div_lt_of_lt_mul (by rw [Nat.mul_comm]; exact hxN)
          have hyd : y / q < n := Nat.div_lt_of_lt_mul (by rw [Nat.mul_comm]; exact hyN)
          have hxm : x % q < q := Nat.mod_lt _ (by omega)
          have hym : y % q < q := Nat.mod_lt _ (by omega)
          have t1 : ((x : Int)).tdiv (q : Int) = ((x / q : Nat) : Int) := by rw [Int.ofNat_tdiv]
          have t2 : ((y : Int)).tdiv (q : Int) = ((y / q : Nat) : Int) := by rw [Int.ofNat_tdiv]
          have t3 : ((x : Int)).tmod (q : Int) = ((x % q : Nat) : Int) := by rw [Int.ofNat_tmod]
          have t4 : ((y : Int)).tmod (q : Int) = ((y % q : Nat) : Int) := by rw [Int.ofNat_tmod]
          have hpr : H x y = ((ap f (x / q) (y / q) * q + ap f2 (x % q) (y % q) : Nat) : Int) := by rw [← HH.out]; rfl
          have hu := HT1.out.ap_lt HN.out hxd hyd
          have hu2 := HT2.out.ap_lt HN2.out hxm hym
          obtain ⟨xa, hxa⟩ : ∃ a, x / q = a := ⟨_, rfl⟩
          obtain ⟨ya, hya⟩ : ∃ a, y / q = a := ⟨_, rfl⟩
          obtain ⟨xb, hxb⟩ : ∃ a, x % q = a := ⟨_, rfl⟩
          obtain ⟨yb, hyb⟩ : ∃ a, y % q = a := ⟨_, rfl⟩
          rw [hxa] at hxd t1 hu hpr
          rw [hya] at hyd t2 hu hpr
          rw [hxb] at hxm t3 hu2 hpr
          rw [hyb] at hym t4 hu2 hpr
          obtain ⟨bx, ox, cx, r1, l1, g1⟩ := HC1.out xa hxd
          have r2 := g1 ya hyd
          obtain ⟨bp, op, cp, s1, m1, g2⟩ := HC2.out xb hxm
          have s2 := g2 yb hym
          obtain ⟨u, hue⟩ : ∃ a, ap f xa ya = a := ⟨_, rfl⟩
          obtain ⟨u2, hue2⟩ : ∃ a, ap f2 xb yb = a := ⟨_, rfl⟩
          rw [hue] at hu r2 hpr
          rw [hue2] at hu2 s2 hpr
          have hb1 : u * q + u2 < 12 := by
            have h : (u + 1) * q ≤ n * q := Nat.mul_le_mul_right q hu
            rw [Nat.add_mul, Nat.one_mul, HSZ.out] at h
            omega
          obtain ⟨uq, huq⟩ : ∃ a, u * q = a := ⟨_, rfl⟩
          rw [huq] at hb1 hpr
          have t5 : (u : Int) * (q : Int) = (uq : Int) := by rw [← huq]; simp
          have t7 : (uq : Int) + (u2 : Int) = ((uq + u2 : Nat) : Int) := by simp
          obtain ⟨w1, hw1⟩ : ∃ a, uq + u2 = a := ⟨_, rfl⟩
          have huq12 : uq < 12 := by omega
          rw [hw1] at hb1 t7 hpr
          have HCELL := hide hpr
          have hq0n : ¬ q = 0 := by omega
          have hq0 : ¬ (q : Int) = 0 := by omega
          have e1 : IntKind.i64.wrap (xa : Int) = (xa : Int) := IntWalk.i64_in _ (by omega)
          have e2 : IntKind.i64.wrap (ya : Int) = (ya : Int) := IntWalk.i64_in _ (by omega)
          have e5 : IntKind.i64.wrap (uq : Int) = (uq : Int) := IntWalk.i64_in _ (by omega)
          have e7 : IntKind.i64.wrap (w1 : Int) = (w1 : Int) := IntWalk.i64_in _ (by omega)
          have z1 : (xa : Int) < n := by omega
          have z2 : (ya : Int) < n := by omega
          have z3 : (xb : Int) < q := by omega
          have z4 : (yb : Int) < q := by omega
          have R1 := hide r1
          have R2 := hide r2
          have S1 := hide s1
          have S2 := hide s2
          clear hxN hyN hxa hya hxb hyb hue hue2 huq hw1 hpr hu hu2 hxd hyd hxm hym g1 g2 r1 r2 s1 s2
          have ff0 : wr.cell? ⟨b1, o1 + xa, none⟩ = some (.slice (some ⟨bx, ox, none⟩) n cx) := (HBW.out.cell (p := ⟨b1, o1 + xa, none⟩) hb1w).trans R1.out
          have ff1 : wr.cell? ⟨bx, ox + ya, none⟩ = some (.int .i64 u) := (HBW.out.cell (p := ⟨bx, ox + ya, none⟩) l1).trans R2.out
          have ff2 : wr.cell? ⟨b2, o2 + xb, none⟩ = some (.slice (some ⟨bp, op, none⟩) q cp) := (HBW.out.cell (p := ⟨b2, o2 + xb, none⟩) hb2w).trans S1.out
          have ff3 : wr.cell? ⟨bp, op + yb, none⟩ = some (.int .i64 u2) := (HBW.out.cell (p := ⟨bp, op + yb, none⟩) m1).trans S2.out
          go_wp2_with fail
          go_region_held3 (fun w' => w'.cell? ⟨b1, o1 + xa, none⟩ = some (.slice (some ⟨bx, ox, none⟩) n cx) ∧ w'.cell? ⟨bx, ox + ya, none⟩ = some (.int .i64 u) ∧ w'.cell? ⟨b2, o2 + xb, none⟩ = some (.slice (some ⟨bp, op, none⟩) q cp) ∧ w'.cell? ⟨bp, op + yb, none⟩ = some (.int .i64 u2)) (first | exact ⟨ff0, ff1, ff2, ff3⟩ | go_keep) (first | (refine step_append_lies _ (by rfl) _ _ _ (by rfl) wo.heap.size 2 i0 _ 1 8 Try.underlying48 hi hz0 hz1 hz2 rfl (by omega) u9 y (ints ((frow sz H x).take y)) (by rfl) (HOI.out.alloc _) ⟨wr.heap.size, 0, none⟩ 1 1 [.int .i64 ((w1 : Int))] (by rfl) (by rfl) ne_new (by simp [Value.oneCell']) (by omega) (by unfold maxLen; omega) (by omega) (by simp; omega) (wr.heap.size + 1) (by simp) ?_; go_must (intro gg cap w3 hown' hgrow _ _; have HO3 := hide hown'; have HB3 : Hid (Below wo.heap.size wo w3) := (by first | exact hide ((HBI.out.alloc HBI.out.size _).drew.grown hgrow (by have := HBI.out.size; simp [World.drew]; omega) (fun g hg => ((HOI.out.alloc (.cells #[.int .i64 ((w1 : Int))] 2)).lt g hg).1)) | exact hide ((HBI.out.alloc HBI.out.size _).grown hgrow (by have := HBI.out.size; simp; omega) (fun g hg => ((HOI.out.alloc (.cells #[.int .i64 ((w1 : Int))] 2)).lt g hg).1))); have hs3 : wo.heap.size < w3.heap.size := (by have := hgrow.size; simp [World.drew] at this; omega); have HBV := hide (HB.out.trans (HB3.out.mono HB.out.size)); clear hown' hgrow; have ff0 : w3.cell? ⟨b1, o1 + xa, none⟩ = some (.slice (some ⟨bx, ox, none⟩) n cx) := (HBV.out.cell (p := ⟨b1, o1 + xa, none⟩) hb1w).trans R1.out; have ff1 : w3.cell? ⟨bx, ox + ya, none⟩ = some (.int .i64 u) := (HBV.out.cell (p := ⟨bx, ox + ya, none⟩) l1).trans R2.out; have ff2 : w3.cell? ⟨b2, o2 + xb, none⟩ = some (.slice (some ⟨bp, op, none⟩) q cp) := (HBV.out.cell (p := ⟨b2, o2 + xb, none⟩) hb2w).trans S1.out; have ff3 : w3.cell? ⟨bp, op + yb, none⟩ = some (.int .i64 u2) := (HBV.out.cell (p := ⟨bp, op + yb, none⟩) m1).trans S2.out)))
          all_goals
            clear ff0 ff1 ff2 ff3
            go_wp2_with fail
            go_roundw
            case rel => exact ⟨y + 1, by omega, by go_num, HB3.out, hs3, by have h := HO3.out; rw [← HCELL.out, frow_take _ _ _ _ hlty] at h; exact h⟩
            case measure => simp [intOf]; omega
        · have hyn : y = sz := by omega
          subst hyn
          have HTM : Hid (((grid y H).take x).length = x) := hide (by rw [List.length_take, grid_length]; omega)
          obtain ⟨A2, c2, hv2, hres2⟩ := own_shape HOI.out
          subst hv2
          have HRO := hide hres2.obj
          have HL3 := hide (HL.out.later HBI.out)
          have HRL : Hid ((frow y H x).length = y) := hide (frow_length _ _ _)
          have HTK : Hid ((frow y H x).take y = frow y H x) := hide (List.take_of_length_le (by rw [HRL.out]; exact Nat.le_refl _))
          have HOW2 : Hid (wr.ownsRow w.heap.size 48 1 u7 x vals) := hide (by have h := HL3.out.own; rw [HTM.out] at h; exact h)
          have hs3 : w.heap.size ≤ wr.heap.size := by have := HBI.out.size; omega
          clear hres2
          go_wp2_with (at_builtin; refine wpList_append_own _ rfl _ _ 22 rfl w.heap.size 48 i2 (.slice none 0 0) 1 24 Try.underlying22 hj hy0 hy1 hy2 rfl (by decide) _ _ _ rfl (HOW2.out.alloc _) ⟨wr.heap.size, 0, none⟩ 1 1 [.slice A2 y c2] rfl rfl ?c1 ?c2 ?c3 ?c4 ?c5 ?_)
          case c1 => exact ne_new
          case c2 => intro u hu; simp at hu; subst hu; rfl
          case c3 => unfold maxLen; omega
          case c4 => omega
          case c5 => simp; omega
          intro v' w7 hown7 hgrow7 _
          have HO7 := hide hown7
          have HG7 := hide hgrow7
          clear hown7 hgrow7
          go_wp2_with fail
          go_roundw
          case rel =>
            have hB7 : Below w.heap.size w w7 := ((HB.out.trans (HBI.out.mono HB.out.size)).alloc hs3 _).grown HG7.out (by simp; omega) (fun g hg => (HOW2.out.alloc (.cells #[.slice A2 y c2] 48)).lt g hg |>.1)
            have hpush := LstV.push (tmp := .cells #[.slice A2 y c2] 48) (A := A2) (c := c2) (r := frow y H x) (w1 := w7) (v' := v') (by decide) hsz HL.out HBI.out (by have h := HRO.out; rw [HTK.out] at h; exact h) (by rw [HTM.out, HRL.out]; exact HO7.out) HG7.out
            refine ⟨x + 1, vals ++ [.slice A2 (frow y H x).length c2], by omega, by go_num, hB7, ?_, by have := hB7.size; omega⟩
            rw [grid_take _ _ _ hlt]
            exact hpush
          case measure => simp [intOf]; omega
    · have hxn : x = sz := by omega
      subst hxn
      go_wp2_with fail
      have h := HL.out
      rw [List.take_of_length_le (by rw [grid_length]; exact Nat.le_refl _)] at h
      go_ret
      obtain ⟨A', c', hv, hobj⟩ := h.shape
      rw [grid_length] at hv
      exact ⟨A', c', by rw [← hv]; rfl, HB.out, hobj⟩
end Go.Proofs.Ytelildgngkajnaa
