import Derived.Test.YthnkhljgealjdaaDr
import Derived.Test.YthnkhljgealjdaaDs
import Derived.Test.YthnkhljgealjdaaDq
import Derived.Test.YthnkhljgealjdaaDp
import Derived.Laws.MakeOwn
namespace Go.Proofs.Ythnkhljgealjdaa
open Go Go.RowKit
open Classical
set_option maxHeartbeats 8000000
/-- The elements of a list of tuples. -/
def flT (P : List (List Int)) : List Int := P.flatMap pad12
theorem flT_tcells (P : List (List Int)) : ints (flT P) = tcells P := by
  unfold flT tcells ints
  rw [List.map_flatMap]
theorem flT_len {P : List (List Int)} (h : ∀ t, t ∈ P → t.length ≤ 12) : (flT P).length = P.length * 12 := by
  have h2 := tcells_length h
  rw [← flT_tcells, ints_length] at h2
  exact h2
theorem flT_snoc (P : List (List Int)) (t : List Int) : flT (P ++ [t]) = flT P ++ pad12 t := by simp [flT]
/-- A row with some numbers put in from a place on. -/
def rsetL (xs : List Int) (o : Nat) : List Int → List Int
  | [] => xs
  | v :: vs => rsetL (xs.set o v) (o + 1) vs
theorem Row.setsL {t : TypeId} {b : Nat} : ∀ (vs xs : List Int) (o : Nat) {w : World}, Row t w b xs → Row t (w.setCells b o (vs.map (Value.int .i64))) b (rsetL xs o vs)
  | [], _, _, _, h => h
  | v :: vs, xs, o, _, h => Row.setsL vs (xs.set o v) (o + 1) (h.set o v)
theorem Below.setsL {B b : Nat} {w0 : World} (hb : B ≤ b) : ∀ (vs : List Value) (o : Nat) {w : World}, Below B w0 w → Below B w0 (w.setCells b o vs)
  | [], _, _, h => h
  | v :: vs, o, _, h => Below.setsL hb vs (o + 1) (h.setCell (p := ⟨b, o, none⟩) hb v)
/-- Twelve numbers are put behind some. -/
theorem rsetL_mid (vs xs ys : List Int) (o : Nat) (ho : o = xs.length) : ∀ zs : List Int, zs.length = vs.length → rsetL (xs ++ (zs ++ ys)) o vs = xs ++ (vs ++ ys) := by
  subst ho
  induction vs generalizing xs with
  | nil =>
    intro zs hz
    have : zs = [] := List.eq_nil_of_length_eq_zero (by simpa using hz)
    subst this; rfl
  | cons v vs ih =>
    intro zs hz
    obtain ⟨z, zs, rfl⟩ : ∃ z zs', zs = z :: zs' := by
      cases zs with
      | nil => simp at hz
      | cons a b => exact ⟨a, b, rfl⟩
    rw [rsetL]
    have e : (xs ++ (z :: zs ++ ys)).set xs.length v = (xs ++ [v]) ++ (zs ++ ys) := by
      rw [List.set_append_right _ _ (Nat.le_refl _)]
      simp
    rw [e]
    have h := ih (xs ++ [v]) zs (by simpa using hz)
    rw [List.length_append] at h
    simp only [List.length_cons, List.length_nil] at h
    rw [h]
    simp
theorem TupS.of_row {w : World} {g N : Nat} {P : List (List Int)} (h : Row 46 w g (flT P)) (hl : ∀ t, t ∈ P → t.length ≤ 12) (hN : P.length = N) (hb : N ≤ 5000) : TupS w g (.slice (some ⟨g, 0, none⟩) N N) P := by
  subst hN
  refine ⟨tcells_length hl, .inr ⟨g, P.length, (ints (flT P)).toArray, rfl, Nat.le_refl _, h, Nat.le_refl _, by unfold maxLen; omega, ?_, ?_⟩⟩
  · rw [List.size_toArray, ints_length, flT_len hl]
  · rw [List.toList_toArray, flT_tcells, List.take_of_length_le (by rw [tcells_length hl]; exact Nat.le_refl _)]
theorem zero12 (n : Nat) : madeCells #[.int .i64 0, .int .i64 0, .int .i64 0, .int .i64 0, .int .i64 0, .int .i64 0, .int .i64 0, .int .i64 0, .int .i64 0, .int .i64 0, .int .i64 0, .int .i64 0] n = (ints (List.replicate n 0)).toArray := by
  apply Array.ext
  · rw [size_madeCells]; simp [ints]
  · intro i h1 h2
    rw [size_madeCells] at h1
    simp only [madeCells, ints, List.map_replicate, Array.getElem_map, Array.getElem_range, List.getElem_toArray, List.getElem_replicate, List.size_toArray, List.length_cons, List.length_nil]
    have hm : i % 12 < 12 := Nat.mod_lt _ (by omega)
    have : i % (0 + 1 + 1 + 1 + 1 + 1 + 1 + 1 + 1 + 1 + 1 + 1 + 1) = i % 12 := rfl
    rw [this]
    obtain ⟨r, hr⟩ : ∃ r, i % 12 = r := ⟨_, rfl⟩
    rw [hr] at hm ⊢
    rcases r with _ | _ | _ | _ | _ | _ | _ | _ | _ | _ | _ | _ | r
    all_goals first | rfl | omega
set_option maxRecDepth 100000 in
theorem dsI (A : Option Addr) (n c : Nat) (f : List (List Int)) (B : Option Addr) (k d : Nat) (s : List (List Int)) (C : Option Addr) (m e : Nat) (x : List Int) (zs : List (List Int)) (code : Int) (kz : Nat) (w : World) (hz : ZArg 1048576 w A n f B k s) (hm : x.length = m) (hb : m ≤ 1048576) (hr : Rd w C x) (hres : DsR f s x zs code) (hkz : zs.length = kz) :
    Calls Try.prog 8 #[.agg #[.slice A n c, .slice B k d], .slice C m e] w (TPost 25 2 kz zs code w) := by
  have HZ := hide hz
  have HM := hide hm
  have HR := hide hr
  have HKZ := hide hkz
  obtain ⟨L, hL, hcase⟩ := hres
  have HC := hide hL
  have HCASE := hide hcase
  have HB0 := hide ((Below.refl _ w).alloc (Nat.le_refl _) (Obj.cells #[Value.slice A n c, Value.slice B k d] 29))
  have HK0 := hide (Blk.new w 29 [.slice A n c, .slice B k d])
  have d0 : ¬ code = 0 → (code != 0) = true := fun h => by simpa using h
  clear hz hm hr hkz hL hcase
  go_enter Try.func8, Try.ntmps8
  have k0 := HK0.out.cell 0 _ rfl
  have k1 := HK0.out.cell 1 _ rfl
  go_wp2_with fail
  clear k0 k1
  refine (cowN A n c f B k d s C m _ x L code _ _ (HZ.out.later HB0.out) HM.out hb (HR.out.later HB0.out) HC.out rfl).mono ?_
  rintro e w1 ⟨v1, vals1, hcn1, rfl, hb1, hl1⟩
  have HB1 := hide (HB0.out.trans (hb1.mono HB0.out.size))
  have HK1 := hide (HK0.out.later hb1)
  have hK1l := HK1.out.lt
  by_cases hc0 : code = 0
  · subst hc0
    obtain ⟨hwd, hcl, hasc, hll⟩ := HC.out.zero
    obtain ⟨hs, hw⟩ := hwd.zero rfl
    obtain rfl := (HZ.out.same hs.1).symm
    have hn := HZ.out.sz.fl
    have h12 := (HZ.out.small hs.1).2
    have hw1 := wrds1.1 hw
    rw [hn] at hw1
    have hm8 : m ≤ 8 := by rw [← HM.out]; exact hw1.1
    have hzs : zs = dvL f s L (m + 1) := by
      rcases HCASE.out with ⟨_, h⟩ | ⟨h, _⟩
      · rw [h, HM.out]
      · exact absurd rfl h
    have HZS := hide hzs
    have HS := hide hs
    have HN := hide hn
    have HWX := hide hw1
    have HCL := hide hcl
    have HASC := hide hasc
    have HL1 := hide hl1
    have HCN := hide hcn1
    obtain ⟨gL, cL, hv, hgL, hcells⟩ := own_look hl1.own hcl.pos
    subst hv
    have HCELL := hide hcells
    obtain ⟨N, hN⟩ : ∃ N, L.length = N := ⟨_, rfl⟩
    have HNN := hide hN
    rw [hN] at hll ⊢
    obtain ⟨it, hit, hzt0, hzt1, hzt2⟩ := info_parts tqInfo
    clear hb1 hwd hcl hasc hs hw hn hw1 hl1 hcn1 hcells hN hzs d0 HC HCASE
    go_upto_region 5 with fail
    refine wp_gen fun w2 hw2 => ?_
    obtain ⟨b1, hb1e⟩ : ∃ b, w1.heap.size = b := ⟨_, rfl⟩
    have HBE := hide hb1e
    have HB2 : Hid (Below b1 w1 w2) := hide (by rw [hw2, ← hb1e]; exact (Below.refl _ _).alloc (Nat.le_refl _) _)
    have HL2 : Hid (LstV 25 2 b1 w2 (.slice (some ⟨b1, 0, none⟩) 0 0) [] []) := hide (by rw [hw2, ← hb1e]; exact LstV.start w1 _ _)
    have hs2 : b1 ≤ w2.heap.size := by rw [← hb1e]; have := HB2.out.size; exact this
    rw [hb1e] at hgL hK1l ⊢
    clear hw2 hb1e
    go_wp2_with fail
    go_loopw [8, 9, 10, 11, 12, 26] (fun ov _ _ _ _ kv wx => ∃ (j : Nat) (vals : List Value), j ≤ m + 1 ∧ kv = .int .i64 j ∧ Below b1 w1 wx ∧ LstV 25 2 b1 wx ov (dvL f s L j) vals ∧ b1 ≤ wx.heap.size) (fun _ _ _ _ _ kv _ => m + 1 - (intOf kv).toNat)
    case atStart => exact ⟨0, [], Nat.zero_le _, rfl, HB2.out, HL2.out, hs2⟩
    case round =>
      obtain ⟨wx, rfl⟩ : ∃ x, x = wr := ⟨wr, rfl⟩
      obtain ⟨j, vals, hj, rfl, hbe, hlst, hsx⟩ := hrel
      have HB := hide hbe
      have HL := hide hlst
      clear hbe hlst HB2 HL2
      by_cases hjm : j ≤ m
      · have hjz : (j : Int) < (m : Int) + 1 := by omega
        have hmk := run_make (P := Try.prog) wx 44 46 it _ Try.underlying44 hit hzt0 .i64 .i64 (N : Int) (N : Int) (by omega) (Int.le_refl _) (by rw [hzt2]; omega) (by omega)
        rw [hzt1, Int.toNat_natCast] at hmk
        go_wp2_with fail
        clear hmk
        refine wp_gen fun w3 hw3 => ?_
        obtain ⟨gB, hgB⟩ : ∃ g, wx.heap.size = g := ⟨_, rfl⟩
        rw [zero12] at hw3
        have HROW3 : Hid (Row 46 w3 gB (List.replicate (N * 12) 0)) := hide (by rw [hw3, ← hgB]; exact heap_alloc_new _ _)
        have HB3 : Hid (Below gB wx w3) := hide (by rw [hw3, ← hgB]; exact (Below.refl _ _).alloc (Nat.le_refl _) _)
        have HGB := hide hgB
        have hb1g : b1 ≤ gB := by omega
        have HBKL : Hid ((L.map (List.take j)).length = N) := hide (by simpa using HNN.out)
        have HBT : Hid (∀ t, t ∈ L.map (List.take j) → t.length = j ∧ Tup n t) := hide (fun t ht => by
          obtain ⟨p, hp, rfl⟩ := List.mem_map.1 ht
          have hT := (HCL.out.2 p).1 hp
          have hpt := hT.tup (HS.out.pb HN.out) HWX.out.tup
          have hpl := hT.len
          have := HM.out
          exact ⟨by rw [List.length_take]; omega, Tup.of_mem (by rw [List.length_take]; omega) (fun v hv => hpt.mem v (List.mem_of_mem_take hv))⟩)
        rw [hgB]
        clear hw3 hgB
        go_loopw [11, 12, 34] (fun _ _ iv wi => ∃ i : Nat, i ≤ N ∧ iv = .int .i64 i ∧ Below gB wx wi ∧ Row 46 wi gB (flT ((L.map (List.take j)).take i) ++ List.replicate ((N - i) * 12) 0)) (fun _ _ iv _ => N - (intOf iv).toNat)
        case atStart => exact ⟨0, Nat.zero_le _, rfl, HB3.out, by simpa [flT] using HROW3.out⟩
        case round =>
          obtain ⟨wi, rfl⟩ : ∃ x, x = wr := ⟨wr, rfl⟩
          obtain ⟨i, hi, rfl, hbe, hrow⟩ := hrel
          have HBi := hide hbe
          have HRW := hide hrow
          clear hbe hrow HB3 HROW3
          by_cases hiN : i < N
          · have hiz : (i : Int) < N := by omega
            have hiL : i < L.length := by rw [HNN.out]; exact hiN
            obtain ⟨Ai, ci, hvi, hobj⟩ := HL1.out.row i hiL
            have hcap := HCN.out _ _ _ (List.mem_of_getElem? hvi)
            have hBwi : Below b1 w1 wi := HB.out.trans (HBi.out.mono hb1g)
            have eX3 := (hBwi.cell (p := ⟨gL, i, none⟩) hgL).trans (HCELL.out i _ hvi)
            obtain ⟨p, hp⟩ : ∃ p, L.getD i [] = p := ⟨_, rfl⟩
            rw [hp] at hvi hobj hcap eX3
            have hpL : p ∈ L := by rw [← hp]; exact tgetD_mem L i [] hiL
            have hpl : p.length = m := by rw [((HCL.out.2 p).1 hpL).len]; exact HM.out
            rw [hpl] at hcap eX3
            have htj : (p.take j).length = j := by rw [List.length_take]; omega
            have hat : (L.map (List.take j)).getD i [] = p.take j := by simp [List.getD_eq_getElem?_getD, hiL, ← hp]
            have HTK : Hid ((L.map (List.take j)).take (i + 1) = (L.map (List.take j)).take i ++ [p.take j]) := hide (by rw [take_next (by rw [HBKL.out]; exact hiN), hat])
            have HTJ := hide htj
            have hpp := pad12_length (xs := p.take j) (by omega)
            obtain ⟨pp, hppe⟩ : ∃ pp, pad12 (p.take j) = pp := ⟨_, rfl⟩
            rw [hppe] at hpp
            obtain ⟨p0, p1, p2, p3, p4, p5, p6, p7, p8, p9, p10, p11, rfl⟩ := list12 hpp
            have hkp : tkey (p.take j) = .agg #[.int .i64 p0, .int .i64 p1, .int .i64 p2, .int .i64 p3, .int .i64 p4, .int .i64 p5, .int .i64 p6, .int .i64 p7, .int .i64 p8, .int .i64 p9, .int .i64 p10, .int .i64 p11] := by unfold tkey; rw [hppe]; rfl
            have HKP := hide hkp
            have HPPE := hide hppe
            have hRp : Rd wi Ai p := hobj.rd.later (by have h := hBwi; rw [← HBE.out] at h; exact h)
            have HRT : Hid (Rd wi Ai (p.take j)) := hide (hRp.take j)
            have HFL : Hid ((flT ((L.map (List.take j)).take i)).length = i * 12) := hide (by
              rw [flT_len (fun t ht => by have := (HBT.out t (List.mem_of_mem_take ht)).1; omega), List.length_take, HBKL.out, Nat.min_eq_left (by omega)])
            have hrl : (flT ((L.map (List.take j)).take i) ++ List.replicate ((N - i) * 12) 0).length = N * 12 := by rw [List.length_append, HFL.out, List.length_replicate, ← Nat.add_mul]; congr 1; omega
            have hjc : (j : Int) ≤ ci := by omega
            have HCALL : Hid (∀ (A9 : Option Addr) (c9 : Nat) (W : World), Below wi.heap.size wi W → Rd wi A9 (p.take j) → Calls Try.prog 22 #[.slice A9 j c9] W fun e w' => e = .returned (.agg #[.int .i64 p0, .int .i64 p1, .int .i64 p2, .int .i64 p3, .int .i64 p4, .int .i64 p5, .int .i64 p6, .int .i64 p7, .int .i64 p8, .int .i64 p9, .int .i64 p10, .int .i64 p11]) ∧ Below W.heap.size W w') := hide (fun A9 c9 W hW hr9 => by
              have h := tupleOf_key A9 j c9 (p.take j) W HTJ.out (by omega) (hr9.later hW)
              rw [HKP.out] at h
              exact h)
            have hgi : gB < wi.heap.size := HRW.out.lt
            have HRL := hide hrl
            clear hvi hobj hp hpL hpl htj hat hpp hppe hkp hRp hBwi hrl
            go_wp2_with fail
            refine (HCALL.out Ai ci wi (Below.refl _ _) HRT.out).mono ?_
            rintro e w6 ⟨rfl, hb6⟩
            have hgb6 : gB ≤ wi.heap.size := Nat.le_of_lt hgi
            have HB6 := hide (HBi.out.trans (hb6.mono hgb6))
            have HRW6 := hide (HRW.out.later hb6 hgi)
            have ks0 : w6.cell? ⟨gB, i * 12 + 0, none⟩ = some (.int .i64 ((flT ((L.map (List.take j)).take i) ++ List.replicate ((N - i) * 12) 0).getD (i * 12 + 0) 0)) := HRW6.out.cell (by rw [HRL.out]; omega)
            have ks1 : w6.cell? ⟨gB, i * 12 + 1, none⟩ = some (.int .i64 ((flT ((L.map (List.take j)).take i) ++ List.replicate ((N - i) * 12) 0).getD (i * 12 + 1) 0)) := HRW6.out.cell (by rw [HRL.out]; omega)
            have ks2 : w6.cell? ⟨gB, i * 12 + 2, none⟩ = some (.int .i64 ((flT ((L.map (List.take j)).take i) ++ List.replicate ((N - i) * 12) 0).getD (i * 12 + 2) 0)) := HRW6.out.cell (by rw [HRL.out]; omega)
            have ks3 : w6.cell? ⟨gB, i * 12 + 3, none⟩ = some (.int .i64 ((flT ((L.map (List.take j)).take i) ++ List.replicate ((N - i) * 12) 0).getD (i * 12 + 3) 0)) := HRW6.out.cell (by rw [HRL.out]; omega)
            have ks4 : w6.cell? ⟨gB, i * 12 + 4, none⟩ = some (.int .i64 ((flT ((L.map (List.take j)).take i) ++ List.replicate ((N - i) * 12) 0).getD (i * 12 + 4) 0)) := HRW6.out.cell (by rw [HRL.out]; omega)
            have ks5 : w6.cell? ⟨gB, i * 12 + 5, none⟩ = some (.int .i64 ((flT ((L.map (List.take j)).take i) ++ List.replicate ((N - i) * 12) 0).getD (i * 12 + 5) 0)) := HRW6.out.cell (by rw [HRL.out]; omega)
            have ks6 : w6.cell? ⟨gB, i * 12 + 6, none⟩ = some (.int .i64 ((flT ((L.map (List.take j)).take i) ++ List.replicate ((N - i) * 12) 0).getD (i * 12 + 6) 0)) := HRW6.out.cell (by rw [HRL.out]; omega)
            have ks7 : w6.cell? ⟨gB, i * 12 + 7, none⟩ = some (.int .i64 ((flT ((L.map (List.take j)).take i) ++ List.replicate ((N - i) * 12) 0).getD (i * 12 + 7) 0)) := HRW6.out.cell (by rw [HRL.out]; omega)
            have ks8 : w6.cell? ⟨gB, i * 12 + 8, none⟩ = some (.int .i64 ((flT ((L.map (List.take j)).take i) ++ List.replicate ((N - i) * 12) 0).getD (i * 12 + 8) 0)) := HRW6.out.cell (by rw [HRL.out]; omega)
            have ks9 : w6.cell? ⟨gB, i * 12 + 9, none⟩ = some (.int .i64 ((flT ((L.map (List.take j)).take i) ++ List.replicate ((N - i) * 12) 0).getD (i * 12 + 9) 0)) := HRW6.out.cell (by rw [HRL.out]; omega)
            have ks10 : w6.cell? ⟨gB, i * 12 + 10, none⟩ = some (.int .i64 ((flT ((L.map (List.take j)).take i) ++ List.replicate ((N - i) * 12) 0).getD (i * 12 + 10) 0)) := HRW6.out.cell (by rw [HRL.out]; omega)
            have ks11 : w6.cell? ⟨gB, i * 12 + 11, none⟩ = some (.int .i64 ((flT ((L.map (List.take j)).take i) ++ List.replicate ((N - i) * 12) 0).getD (i * 12 + 11) 0)) := HRW6.out.cell (by rw [HRL.out]; omega)
            have kf0 := HRW6.out.frozen (i * 12 + 0)
            have kf1 := HRW6.out.frozen (i * 12 + 1)
            have kf2 := HRW6.out.frozen (i * 12 + 2)
            have kf3 := HRW6.out.frozen (i * 12 + 3)
            have kf4 := HRW6.out.frozen (i * 12 + 4)
            have kf5 := HRW6.out.frozen (i * 12 + 5)
            have kf6 := HRW6.out.frozen (i * 12 + 6)
            have kf7 := HRW6.out.frozen (i * 12 + 7)
            have kf8 := HRW6.out.frozen (i * 12 + 8)
            have kf9 := HRW6.out.frozen (i * 12 + 9)
            have kf10 := HRW6.out.frozen (i * 12 + 10)
            have kf11 := HRW6.out.frozen (i * 12 + 11)
            obtain ⟨y0, hy0⟩ : ∃ y, (flT ((L.map (List.take j)).take i) ++ List.replicate ((N - i) * 12) 0).getD (i * 12 + 0) 0 = y := ⟨_, rfl⟩
            obtain ⟨y1, hy1⟩ : ∃ y, (flT ((L.map (List.take j)).take i) ++ List.replicate ((N - i) * 12) 0).getD (i * 12 + 1) 0 = y := ⟨_, rfl⟩
            obtain ⟨y2, hy2⟩ : ∃ y, (flT ((L.map (List.take j)).take i) ++ List.replicate ((N - i) * 12) 0).getD (i * 12 + 2) 0 = y := ⟨_, rfl⟩
            obtain ⟨y3, hy3⟩ : ∃ y, (flT ((L.map (List.take j)).take i) ++ List.replicate ((N - i) * 12) 0).getD (i * 12 + 3) 0 = y := ⟨_, rfl⟩
            obtain ⟨y4, hy4⟩ : ∃ y, (flT ((L.map (List.take j)).take i) ++ List.replicate ((N - i) * 12) 0).getD (i * 12 + 4) 0 = y := ⟨_, rfl⟩
            obtain ⟨y5, hy5⟩ : ∃ y, (flT ((L.map (List.take j)).take i) ++ List.replicate ((N - i) * 12) 0).getD (i * 12 + 5) 0 = y := ⟨_, rfl⟩
            obtain ⟨y6, hy6⟩ : ∃ y, (flT ((L.map (List.take j)).take i) ++ List.replicate ((N - i) * 12) 0).getD (i * 12 + 6) 0 = y := ⟨_, rfl⟩
            obtain ⟨y7, hy7⟩ : ∃ y, (flT ((L.map (List.take j)).take i) ++ List.replicate ((N - i) * 12) 0).getD (i * 12 + 7) 0 = y := ⟨_, rfl⟩
            obtain ⟨y8, hy8⟩ : ∃ y, (flT ((L.map (List.take j)).take i) ++ List.replicate ((N - i) * 12) 0).getD (i * 12 + 8) 0 = y := ⟨_, rfl⟩
            obtain ⟨y9, hy9⟩ : ∃ y, (flT ((L.map (List.take j)).take i) ++ List.replicate ((N - i) * 12) 0).getD (i * 12 + 9) 0 = y := ⟨_, rfl⟩
            obtain ⟨y10, hy10⟩ : ∃ y, (flT ((L.map (List.take j)).take i) ++ List.replicate ((N - i) * 12) 0).getD (i * 12 + 10) 0 = y := ⟨_, rfl⟩
            obtain ⟨y11, hy11⟩ : ∃ y, (flT ((L.map (List.take j)).take i) ++ List.replicate ((N - i) * 12) 0).getD (i * 12 + 11) 0 = y := ⟨_, rfl⟩
            rw [hy0] at ks0
            rw [hy1] at ks1
            rw [hy2] at ks2
            rw [hy3] at ks3
            rw [hy4] at ks4
            rw [hy5] at ks5
            rw [hy6] at ks6
            rw [hy7] at ks7
            rw [hy8] at ks8
            rw [hy9] at ks9
            rw [hy10] at ks10
            rw [hy11] at ks11
            clear hy0 hy1 hy2 hy3 hy4 hy5 hy6 hy7 hy8 hy9 hy10 hy11
            have hiz0 : (0 : Int) ≤ (i : Int) := by omega
            rw [Nat.add_zero] at ks0 kf0
            clear hb6 HCALL HRT HRW HBi eX3
            go_wp2_with fail
            go_roundw
            case rel =>
              refine ⟨i + 1, by omega, by go_num, Below.setsL (Nat.le_refl gB) [.int .i64 p0, .int .i64 p1, .int .i64 p2, .int .i64 p3, .int .i64 p4, .int .i64 p5, .int .i64 p6, .int .i64 p7, .int .i64 p8, .int .i64 p9, .int .i64 p10, .int .i64 p11] (i * 12) HB6.out, ?_⟩
              have hR := Row.setsL [p0, p1, p2, p3, p4, p5, p6, p7, p8, p9, p10, p11] _ (i * 12) HRW6.out
              have e1 : List.replicate ((N - i) * 12) (0 : Int) = List.replicate 12 0 ++ List.replicate ((N - (i + 1)) * 12) 0 := by
                have e0 : (N - i) * 12 = 12 + (N - (i + 1)) * 12 := by omega
                rw [e0]
                exact List.replicate_append_replicate.symm
              rw [e1, rsetL_mid _ _ _ _ HFL.out.symm _ (by simp)] at hR
              rw [HTK.out, flT_snoc, HPPE.out, List.append_assoc]
              exact hR
            case measure => simp [intOf]; omega
          · have hiN2 : i = N := by omega
            have hiz : ¬ (i : Int) < N := by omega
            have hrw : Row 46 wi gB (flT (L.map (List.take j))) := by
              have h := HRW.out
              rw [hiN2, Nat.sub_self, Nat.zero_mul, List.replicate_zero, List.append_nil, List.take_of_length_le (by rw [HBKL.out]; exact Nat.le_refl _)] at h
              exact h
            have HRF := hide hrw
            have HBwi : Hid (Below b1 w1 wi) := hide (HB.out.trans (HBi.out.mono hb1g))
            have hgi : gB < wi.heap.size := hrw.lt
            have hwb : w.heap.size < b1 := by have := HBE.out; omega
            have HKi : Hid (Blk wi w.heap.size 29 [.slice A n c, .slice B n d]) := hide ((HBwi.out.block w.heap.size hwb).trans HK1.out)
            have HZi := hide (HZ.out.later (HB1.out.trans (HBwi.out.mono (Nat.le_of_lt hwb))))
            have hrl0 : 0 < (dvK f s L j).length := by
              have hL0 := HCL.out.pos
              have hm0 : L.getD 0 [] ∈ L := tgetD_mem L 0 [] hL0
              obtain ⟨z, hz, _⟩ := frs_cover (h1 := leH f) (h2 := leH s) (L.map (List.take j)) ((L.getD 0 []).take j) (List.mem_map.2 ⟨_, hm0, rfl⟩)
              exact List.length_pos_of_mem hz
            have hrl5 : (dvK f s L j).length ≤ 1000 := by have h := dvK_len f s L j; rw [HNN.out] at h; omega
            have k0 := HKi.out.cell 0 _ rfl
            have k1 := HKi.out.cell 1 _ rfl
            clear hrw HRW
            go_wp2_with fail
            clear k0 k1
            refine (normI_any A n c f B d s j N gB N gB (L.map (List.take j)) _ HZi.out HS.out (by omega) HBKL.out (by omega) (fun t ht => (HBT.out t ht).1) (fun t ht => (HBT.out t ht).2) (begins_closed HCL.out j) (TupS.of_row HRF.out (fun t ht => by have := (HBT.out t ht).1; omega) HBKL.out (by omega)) hgi).mono ?_
            rintro e w7 ⟨v7, vals7, rfl, hb7, hl7⟩
            obtain ⟨rl, hrl⟩ : ∃ l, (dvK f s L j).length = l := ⟨_, rfl⟩
            have HRL := hide hrl
            obtain ⟨g7, c7, hv7, hg7, hcl7⟩ := own_look hl7.own (by show 0 < (dvK f s L j).length; exact hrl0)
            subst hv7
            rw [show (frs (leH f) (leH s) (L.map (List.take j))).length = rl from hrl] at hl7 ⊢
            rw [hrl] at hrl0 hrl5
            have hwxi : wx.heap.size ≤ wi.heap.size := by have := HGB.out; omega
            have HL7 : Hid (LstV 25 2 wx.heap.size w7 (.slice (some ⟨g7, 0, none⟩) rl c7) (dvK f s L j) vals7) := hide (hl7.monoB (B' := wx.heap.size) hwxi)
            have HBx7 : Hid (Below wx.heap.size wx w7) := hide (by
              have h := HBi.out
              rw [← HGB.out] at h
              exact h.trans (hb7.mono hwxi))
            obtain ⟨dl, hdl⟩ : ∃ l, (dvL f s L j).length = l := ⟨_, rfl⟩
            have HDL := hide hdl
            have hdlb : dl ≤ 9000 := by
              have h := dvL_len f s L j
              rw [hdl, HNN.out] at h
              have h2 : j * N ≤ 8 * 1000 := Nat.mul_le_mul (by omega) hll
              omega
            have HLw := hide (HL.out.later HBx7.out)
            have HOW : Hid (w7.ownsRow b1 25 1 u8 dl vals) := hide (by have h := HLw.out.own; rw [hdl] at h; exact h)
            have HNEWS : Hid (∀ q u, vals7[q]? = some u → w7.cell? ((⟨g7, 0, none⟩ : Addr).add q) = some u) := hide (fun q u hu => by
              have h := hcl7 q u hu
              rw [show (⟨g7, 0, none⟩ : Addr).add q = ⟨g7, q, none⟩ by simp [Addr.add]; try omega]
              exact h)
            have HLLN : Hid (vals7.length = rl * 1) := hide (by have h := ownsRow_len HL7.out.own; rw [hrl] at h; omega)
            have HONE := hide HL7.out.oneC
            obtain ⟨i2, hi2, hz0, hz1, hz2⟩ := info_parts neInfo2
            have hb17 : b1 ≤ w7.heap.size := by have := HBx7.out.size; omega
            clear hl7 hb7 hcl7 hdl hrl
            go_wp2_with (at_builtin; refine wpList_append_own_at _ rfl _ _ 22 rfl b1 25 i2 (.slice none 0 0) 1 24 Try.underlying22 hi2 hz0 hz1 hz2 rfl (by decide) _ _ _ rfl HOW.out ⟨g7, 0, none⟩ rl c7 vals7 rfl HLLN.out HNEWS.out HONE.out ?f3 ?f4 ?f5 ?_)
            case f3 => unfold maxLen; omega
            case f4 => omega
            case f5 => omega
            intro v9 w9 hown9 hgrow9 _ hat9
            have HLc := hide (LstV.concat (w0 := wx) (w := w7) (by decide) hsx HL.out HBx7.out HL7.out (by rw [HDL.out, HRL.out]; exact hown9) hgrow9)
            have HB9 : Hid (Below b1 w1 w9) := hide ((HB.out.trans (HBx7.out.mono hsx)).grown hgrow9 hb17 (fun g0 hg0 => (HOW.out.lt g0 hg0).1))
            have hs9 : b1 ≤ w9.heap.size := Nat.le_trans hb17 hgrow9.size
            clear hown9 hgrow9 hat9
            go_wp2_with fail
            go_roundw
            case rel => exact ⟨j + 1, vals ++ vals7, by omega, by go_num, HB9.out, HLc.out, hs9⟩
            case measure => simp [intOf]; omega
      · have hjm2 : j = m + 1 := by omega
        have hjz : ¬ (j : Int) < (m : Int) + 1 := by omega
        rw [hjm2, ← HZS.out] at HL
        obtain ⟨A', c', hv, hobj⟩ := HL.out.shape
        rw [HKZ.out] at hv
        subst hv
        have HO := hide (hobj.mono (lo' := w.heap.size) (Nat.le_of_lt (by have := HBE.out; omega)) (Nat.le_refl _))
        have HBf : Hid (Below w.heap.size w wx) := hide (HB1.out.trans (HB.out.mono (Nat.le_of_lt (by have := HBE.out; omega))))
        clear hobj
        go_wp2_with fail
        go_ret2
        exact ⟨_, _, rfl, HBf.out, HO.out⟩
  · obtain rfl : zs = [] := by
      rcases HCASE.out with ⟨h, _⟩ | ⟨_, h⟩
      · exact absurd h hc0
      · exact h
    obtain rfl : kz = 0 := by simpa using HKZ.out.symm
    have hcb := d0 hc0
    clear d0 hl1 hcn1
    go_wp2_with fail
    go_ret2
    exact ⟨_, _, rfl, HB1.out, .inl ⟨rfl, rfl⟩⟩
end Go.Proofs.Ythnkhljgealjdaa
