import Derived.Test.YtjcopenbpbaljaaDoorPsF
import Derived.Test.YtjcopenbpbaljaaDoorPtbS
import Derived.Test.YtjcopenbpbaljaaDoorMapS
import Derived.Deep.Cut
import Derived.Test.YtjcopenbpbaljaaDoorZEnd
namespace Go.Proofs.YtjcopenbpbaljaaDoor
open Go Go.RowKit
set_option maxHeartbeats 4000000

set_option maxRecDepth 100000 in
theorem psS_any (s : ByteArray) (zf zg : List (List Int)) (code : Int) (kz kw : Nat) (w : World) (hb : s.size ≤ 1048576) (hres : PsRes s zf zg code) (hk : ZSz 1048576 zf kz zg kw) :
    Calls Tryd.prog 11 #[.string s] w (ZPost 44 2 kz kw zf zg code w) := by
  obtain ⟨f, cf, hpf, hlf, hrf⟩ := PtRes.ex (cutF s)
  obtain ⟨g, cg, hpg, hlg, hrg⟩ := PtRes.ex (cutB s)
  obtain ⟨n, hn⟩ : ∃ n, f.length = n := ⟨_, rfl⟩
  obtain ⟨m, hm⟩ : ∃ m, g.length = m := ⟨_, rfl⟩
  have hcs := cut_size s
  have HPF := hide hpf
  have HPG := hide hpg
  have HZS : Hid (ZSz 1048576 f n g m) := hide ⟨hn, by rw [← hn]; exact hlf, hrf, hm, by rw [← hm]; exact hlg, hrg⟩
  have HN := hide hn
  have HM := hide hm
  skip
  have HB0 := hide ((Below.refl _ w).alloc (Nat.le_refl _) (Obj.cells #[.slice none 0 0, .slice none 0 0] 29))
  have HK0 := hide (Blk.new w 29 [.slice none 0 0, .slice none 0 0])
  rcases hres with ⟨hg, rfl, rfl, rfl⟩ | ⟨hg, rfl, rfl, rfl⟩
  · obtain ⟨h1, h2, h3, h4⟩ := psG_eq hpf hpg hg
    have hkn : n = kz := by rw [← hn, h1]; exact hk.fl
    have hkm : m = kw := by rw [← hm, h3]; exact hk.sl
    subst hkn
    subst hkm
    subst h2
    subst h4
    rw [← h1, ← h3]
    have HMP : Hid (PMap f g) := hide ((psG_iff hpf hpg).2 hg)
    obtain ⟨L, hL⟩ : ∃ L, (parts 124 s).length = L := ⟨_, rfl⟩
    have HL := hide hL
    have HL1 : Hid (1 ≤ L) := hide (by rw [← hL]; exact parts_pos 124 s)
    have hLs : L ≤ s.size + 1 := by rw [← hL]; exact (parts_sz 124 s).1
    have HGG : Hid (PsG s) := hide hg
    clear h1 h3 hg hpf hpg hn hm hk hrf hrg 
    have HPT : Hid (parts 124 s = [cutF s, cutB s]) := hide (psG_parts HGG.out)
    have hL2 : (2 : Nat) = L := by rw [← hL, HPT.out]; rfl
    subst hL2
    clear hL
    go_enter Tryd.func11, Tryd.ntmps11
    go_wp2_with fail
    refine calls_gen fun wp hwp => ?_
    replace HB0 : Hid (Below w.heap.size w wp) := hide (by rw [hwp]; exact HB0.out)
    replace HK0 : Hid (Blk wp w.heap.size 29 [.slice none 0 0, .slice none 0 0]) := hide (by rw [hwp]; exact HK0.out)
    clear hwp
    refine (l01Split_any s 124 _ hb).mono ?_
    rintro e w0 ⟨v0, rfl, hb1, ho1⟩
    rw [HL.out] at ho1
    obtain ⟨gb, cap, rfl, hgb, hcl⟩ := str_cells ho1 HL1.out
    have HCL := hide hcl
    have HBa := hide (HB0.out.trans (hb1.mono HB0.out.size))
    have HKa := hide (HK0.out.later hb1)
    clear hb1 ho1 hcl
    have e0 := HCL.out 0 (by omega)
    have e1 := HCL.out 1 (by omega)
    rw [HPT.out] at e0 e1
    have e0' : w0.cell? ⟨gb, 0, none⟩ = some (.string (cutF s)) := e0
    have e1' : w0.cell? ⟨gb, 1, none⟩ = some (.string (cutB s)) := e1
    have HE1 := hide e1'
    clear e0 e1 e1'
    go_wp2_with fail
    clear e0'
    refine calls_gen fun w1 hw1 => ?_
    have HB1 : Hid (Below w.heap.size w w1) := hide (by rw [hw1]; exact HBa.out)
    have HK1 : Hid (Blk w1 w.heap.size 29 [.slice none 0 0, .slice none 0 0]) := hide (by rw [hw1]; exact HKa.out)
    have HE2 : Hid (w1.cell? ⟨gb, 1, none⟩ = some (.string (cutB s)) ∧ gb < w1.heap.size) := hide (by rw [hw1]; exact ⟨HE1.out, hgb⟩)
    have HLOW : Hid (w.heap.size < w1.heap.size) := hide HK1.out.lt
    clear hw1
    refine (l01Parse_any (cutF s) f 0 true n _ (by omega) HPF.out (by simp) HN.out).mono ?_
    rintro e w2 ⟨A2, c2, rfl, hb, ho⟩
    have HB2 := hide (HB1.out.trans (hb.mono HB1.out.size))
    have HK2 := hide (HK1.out.later hb)
    have HF2 := hide ho
    have HS2 : Hid (w1.heap.size ≤ w2.heap.size) := hide hb.size
    have e1' := (hb.cell (p := ⟨gb, 1, none⟩) HE2.out.2).trans HE2.out.1
    clear hb ho
    go_wp2_with fail
    clear e1'
    refine (l01Parse_any (cutB s) g 0 true m _ (by omega) HPG.out (by simp) HM.out).mono ?_
    rintro e w3 ⟨A3, c3, rfl, hb, ho⟩
    have HB3 := hide (HB2.out.trans (hb.mono HB2.out.size))
    have HK3 := hide (HK2.out.later hb)
    have HF3 := hide (HF2.out.later hb)
    have HG3 := hide ho
    have HS3 : Hid (w2.heap.size ≤ w3.heap.size) := hide hb.size
    clear hb ho
    go_wp2_with fail
    refine calls_gen fun w4 hw4 => ?_
    have hb4 : Below w3.heap.size w3 w4 := by rw [hw4]; exact (Below.refl _ _).alloc (Nat.le_refl _) _
    have HB4 := hide (HB3.out.trans (hb4.mono HB3.out.size))
    have HK4 := hide (HK3.out.later hb4)
    have HF4 := hide (HF3.out.later hb4)
    have HG4 := hide (HG3.out.later hb4)
    have HS4 : Hid (Blk w4 w3.heap.size 29 [.slice A2 n c2, .slice A3 m c3]) := hide (by rw [hw4]; exact Blk.new _ _ _)
    clear hw4 hb4
    refine (mapS_any _ _ _ f _ _ _ g true _ ⟨HZS.out, HF4.out.rd, HG4.out.rd⟩ ⟨fun _ => HMP.out, fun _ => rfl⟩).mono ?_
    rintro e w5 ⟨rfl, hb5⟩
    have HB5 := hide (HB4.out.trans (hb5.mono HB4.out.size))
    have HK5 := hide (HK4.out.later hb5)
    have HF5 := hide (HF4.out.later hb5)
    have HG5 := hide (HG4.out.later hb5)
    have HS5 := hide (HS4.out.later hb5)
    have hs5 := hb5.size
    clear hb5
    have k0 := HS5.out.cell 0 _ rfl
    have k1 := HS5.out.cell 1 _ rfl
    have k2 := HK5.out.cell 0 _ rfl
    have k3 := HK5.out.frozen 0
    have k4 := HK5.out.cell 1 _ rfl
    have k5 := HK5.out.frozen 1
    have hlow := HLOW.out
    have hs2 := HS2.out
    have hs3 := HS3.out
    have hsl := HS4.out.lt
    go_wp2_with fail
    refine bp_gen fun wf hwf => ?_
    obtain ⟨q0, q1, hbf, hof⟩ := zend (w2 := w1) hwf HK5.out (Nat.le_refl _) hlow HB5.out (by omega) ⟨w2.heap.size, by omega, by omega, HF5.out, HG5.out.mono (Nat.le_refl _) (by omega)⟩
    clear hwf k0 k1 k2 k3 k4 k5
    exact bodyPost_ret (v := .tuple #[.agg #[.slice A2 n c2, .slice A3 m c3], .int .i64 0]) (by simp [results, Tryd.results11, go_sem, q0, q1]) rfl ⟨_, _, _, _, rfl, hbf, hof⟩
  · have hkz : kz = 0 := by rw [← hk.fl]; rfl
    have hkw : kw = 0 := by rw [← hk.sl]; rfl
    subst hkz
    subst hkw
    have HMP : Hid (¬ PMap f g) := hide (fun h => absurd ((psG_iff hpf hpg).1 h) hg)
    obtain ⟨L, hL⟩ : ∃ L, (parts 124 s).length = L := ⟨_, rfl⟩
    have HL := hide hL
    have HL1 : Hid (1 ≤ L) := hide (by rw [← hL]; exact parts_pos 124 s)
    have hLs : L ≤ s.size + 1 := by rw [← hL]; exact (parts_sz 124 s).1

    clear hg hpf hpg hn hm hk hrf hrg 
    by_cases h2 : (2 : Nat) = L
    · have HPT : Hid (parts 124 s = [cutF s, cutB s]) := hide (parts_two (by rw [hL]; exact h2.symm))
      subst h2
      clear hL
      rcases HPF.out with ⟨_, _, hcf⟩ | ⟨_, _, hcf⟩
      · rcases HPG.out with ⟨_, _, hcg⟩ | ⟨_, _, hcg⟩
        · subst hcf
          subst hcg
          go_enter Tryd.func11, Tryd.ntmps11
          go_wp2_with fail
          refine calls_gen fun wp hwp => ?_
          replace HB0 : Hid (Below w.heap.size w wp) := hide (by rw [hwp]; exact HB0.out)
          replace HK0 : Hid (Blk wp w.heap.size 29 [.slice none 0 0, .slice none 0 0]) := hide (by rw [hwp]; exact HK0.out)
          clear hwp
          refine (l01Split_any s 124 _ hb).mono ?_
          rintro e w0 ⟨v0, rfl, hb1, ho1⟩
          rw [HL.out] at ho1
          obtain ⟨gb, cap, rfl, hgb, hcl⟩ := str_cells ho1 HL1.out
          have HCL := hide hcl
          have HBa := hide (HB0.out.trans (hb1.mono HB0.out.size))
          have HKa := hide (HK0.out.later hb1)
          clear hb1 ho1 hcl
          have e0 := HCL.out 0 (by omega)
          have e1 := HCL.out 1 (by omega)
          rw [HPT.out] at e0 e1
          have e0' : w0.cell? ⟨gb, 0, none⟩ = some (.string (cutF s)) := e0
          have e1' : w0.cell? ⟨gb, 1, none⟩ = some (.string (cutB s)) := e1
          have HE1 := hide e1'
          clear e0 e1 e1'
          go_wp2_with fail
          clear e0'
          refine calls_gen fun w1 hw1 => ?_
          have HB1 : Hid (Below w.heap.size w w1) := hide (by rw [hw1]; exact HBa.out)
          have HK1 : Hid (Blk w1 w.heap.size 29 [.slice none 0 0, .slice none 0 0]) := hide (by rw [hw1]; exact HKa.out)
          have HE2 : Hid (w1.cell? ⟨gb, 1, none⟩ = some (.string (cutB s)) ∧ gb < w1.heap.size) := hide (by rw [hw1]; exact ⟨HE1.out, hgb⟩)
          have HLOW : Hid (w.heap.size < w1.heap.size) := hide HK1.out.lt
          clear hw1
          refine (l01Parse_any (cutF s) f 0 true n _ (by omega) HPF.out (by simp) HN.out).mono ?_
          rintro e w2 ⟨A2, c2, rfl, hb, ho⟩
          have HB2 := hide (HB1.out.trans (hb.mono HB1.out.size))
          have HK2 := hide (HK1.out.later hb)
          have HF2 := hide ho
          have HS2 : Hid (w1.heap.size ≤ w2.heap.size) := hide hb.size
          have e1' := (hb.cell (p := ⟨gb, 1, none⟩) HE2.out.2).trans HE2.out.1
          clear hb ho
          go_wp2_with fail
          clear e1'
          refine (l01Parse_any (cutB s) g 0 true m _ (by omega) HPG.out (by simp) HM.out).mono ?_
          rintro e w3 ⟨A3, c3, rfl, hb, ho⟩
          have HB3 := hide (HB2.out.trans (hb.mono HB2.out.size))
          have HK3 := hide (HK2.out.later hb)
          have HF3 := hide (HF2.out.later hb)
          have HG3 := hide ho
          have HS3 : Hid (w2.heap.size ≤ w3.heap.size) := hide hb.size
          clear hb ho
          go_wp2_with fail
          refine calls_gen fun w4 hw4 => ?_
          have hb4 : Below w3.heap.size w3 w4 := by rw [hw4]; exact (Below.refl _ _).alloc (Nat.le_refl _) _
          have HB4 := hide (HB3.out.trans (hb4.mono HB3.out.size))
          have HK4 := hide (HK3.out.later hb4)
          have HF4 := hide (HF3.out.later hb4)
          have HG4 := hide (HG3.out.later hb4)
          have HS4 : Hid (Blk w4 w3.heap.size 29 [.slice A2 n c2, .slice A3 m c3]) := hide (by rw [hw4]; exact Blk.new _ _ _)
          clear hw4 hb4
          refine (mapS_any _ _ _ f _ _ _ g false _ ⟨HZS.out, HF4.out.rd, HG4.out.rd⟩ ⟨fun h => (by cases h), fun h => absurd h HMP.out⟩).mono ?_
          rintro e w5 ⟨rfl, hb5⟩
          have HB5 := hide (HB4.out.trans (hb5.mono HB4.out.size))
          have HK5 := hide (HK4.out.later hb5)
          have HF5 := hide (HF4.out.later hb5)
          have HG5 := hide (HG4.out.later hb5)
          have HS5 := hide (HS4.out.later hb5)
          have hs5 := hb5.size
          clear hb5
          have k2 := HK5.out.cell 0 _ rfl
          have k3 := HK5.out.frozen 0
          have k4 := HK5.out.cell 1 _ rfl
          have k5 := HK5.out.frozen 1
          go_wp2_with fail
          refine bp_gen fun wf hwf => ?_
          have HRF : Blk wf w.heap.size 29 [.slice none 0 0, .slice none 0 0] := by rw [hwf]; first | exact HK5.out | exact (HK5.out.set 0 _).set 1 _
          have hbf : Below w.heap.size w wf := by rw [hwf]; first | exact HB5.out | exact (HB5.out.setCell (p := ⟨w.heap.size, 0, none⟩) (Nat.le_refl _) _).setCell (p := ⟨w.heap.size, 1, none⟩) (Nat.le_refl _) _
          have q0 := HRF.cell 0 _ rfl
          have q1 := HRF.cell 1 _ rfl
          clear hwf k2 k3 k4 k5
          exact bodyPost_ret (v := .tuple #[.agg #[.slice none 0 0, .slice none 0 0], .int .i64 6]) (by simp [results, Tryd.results11, go_sem, q0, q1]) rfl ⟨_, _, _, _, rfl, hbf, _, Nat.le_refl _, hbf.size, .inl ⟨rfl, rfl⟩, .inl ⟨rfl, rfl⟩⟩
        · subst hcf
          subst hcg
          go_enter Tryd.func11, Tryd.ntmps11
          go_wp2_with fail
          refine calls_gen fun wp hwp => ?_
          replace HB0 : Hid (Below w.heap.size w wp) := hide (by rw [hwp]; exact HB0.out)
          replace HK0 : Hid (Blk wp w.heap.size 29 [.slice none 0 0, .slice none 0 0]) := hide (by rw [hwp]; exact HK0.out)
          clear hwp
          refine (l01Split_any s 124 _ hb).mono ?_
          rintro e w0 ⟨v0, rfl, hb1, ho1⟩
          rw [HL.out] at ho1
          obtain ⟨gb, cap, rfl, hgb, hcl⟩ := str_cells ho1 HL1.out
          have HCL := hide hcl
          have HBa := hide (HB0.out.trans (hb1.mono HB0.out.size))
          have HKa := hide (HK0.out.later hb1)
          clear hb1 ho1 hcl
          have e0 := HCL.out 0 (by omega)
          have e1 := HCL.out 1 (by omega)
          rw [HPT.out] at e0 e1
          have e0' : w0.cell? ⟨gb, 0, none⟩ = some (.string (cutF s)) := e0
          have e1' : w0.cell? ⟨gb, 1, none⟩ = some (.string (cutB s)) := e1
          have HE1 := hide e1'
          clear e0 e1 e1'
          go_wp2_with fail
          clear e0'
          refine calls_gen fun w1 hw1 => ?_
          have HB1 : Hid (Below w.heap.size w w1) := hide (by rw [hw1]; exact HBa.out)
          have HK1 : Hid (Blk w1 w.heap.size 29 [.slice none 0 0, .slice none 0 0]) := hide (by rw [hw1]; exact HKa.out)
          have HE2 : Hid (w1.cell? ⟨gb, 1, none⟩ = some (.string (cutB s)) ∧ gb < w1.heap.size) := hide (by rw [hw1]; exact ⟨HE1.out, hgb⟩)
          have HLOW : Hid (w.heap.size < w1.heap.size) := hide HK1.out.lt
          clear hw1
          refine (l01Parse_any (cutF s) f 0 true n _ (by omega) HPF.out (by simp) HN.out).mono ?_
          rintro e w2 ⟨A2, c2, rfl, hb, ho⟩
          have HB2 := hide (HB1.out.trans (hb.mono HB1.out.size))
          have HK2 := hide (HK1.out.later hb)
          have HF2 := hide ho
          have HS2 : Hid (w1.heap.size ≤ w2.heap.size) := hide hb.size
          have e1' := (hb.cell (p := ⟨gb, 1, none⟩) HE2.out.2).trans HE2.out.1
          clear hb ho
          go_wp2_with fail
          clear e1'
          refine (l01Parse_any (cutB s) g 6 false m _ (by omega) HPG.out (by simp) HM.out).mono ?_
          rintro e w3 ⟨A3, c3, rfl, hb, ho⟩
          have HB3 := hide (HB2.out.trans (hb.mono HB2.out.size))
          have HK3 := hide (HK2.out.later hb)
          have HF3 := hide (HF2.out.later hb)
          have HG3 := hide ho
          have HS3 : Hid (w2.heap.size ≤ w3.heap.size) := hide hb.size
          clear hb ho
          go_upto_region 8 with fail
          refine wp_gen fun w4 hw4 => ?_
          have HB4 : Hid (Below w.heap.size w w4) := hide (by rw [hw4]; exact HB3.out.alloc HB3.out.size _)
          have HK4 : Hid (Blk w4 w.heap.size 29 [.slice none 0 0, .slice none 0 0]) := hide (by rw [hw4]; exact HK3.out.alloc _)
          clear hw4
          have k2 := HK4.out.cell 0 _ rfl
          have k3 := HK4.out.frozen 0
          have k4 := HK4.out.cell 1 _ rfl
          have k5 := HK4.out.frozen 1
          go_wp2_with fail
          refine bp_gen fun wf hwf => ?_
          have HRF : Blk wf w.heap.size 29 [.slice none 0 0, .slice none 0 0] := by rw [hwf]; exact (HK4.out.set 0 _).set 1 _
          have hbf : Below w.heap.size w wf := by rw [hwf]; exact (HB4.out.setCell (p := ⟨w.heap.size, 0, none⟩) (Nat.le_refl _) _).setCell (p := ⟨w.heap.size, 1, none⟩) (Nat.le_refl _) _
          have q0 := HRF.cell 0 _ rfl
          have q1 := HRF.cell 1 _ rfl
          clear hwf k2 k3 k4 k5
          exact bodyPost_ret (v := .tuple #[.agg #[.slice none 0 0, .slice none 0 0], .int .i64 6]) (by simp [results, Tryd.results11, go_sem, q0, q1]) rfl ⟨_, _, _, _, rfl, hbf, _, Nat.le_refl _, hbf.size, .inl ⟨rfl, rfl⟩, .inl ⟨rfl, rfl⟩⟩
      · rcases HPG.out with ⟨_, _, hcg⟩ | ⟨_, _, hcg⟩
        · subst hcf
          subst hcg
          go_enter Tryd.func11, Tryd.ntmps11
          go_wp2_with fail
          refine calls_gen fun wp hwp => ?_
          replace HB0 : Hid (Below w.heap.size w wp) := hide (by rw [hwp]; exact HB0.out)
          replace HK0 : Hid (Blk wp w.heap.size 29 [.slice none 0 0, .slice none 0 0]) := hide (by rw [hwp]; exact HK0.out)
          clear hwp
          refine (l01Split_any s 124 _ hb).mono ?_
          rintro e w0 ⟨v0, rfl, hb1, ho1⟩
          rw [HL.out] at ho1
          obtain ⟨gb, cap, rfl, hgb, hcl⟩ := str_cells ho1 HL1.out
          have HCL := hide hcl
          have HBa := hide (HB0.out.trans (hb1.mono HB0.out.size))
          have HKa := hide (HK0.out.later hb1)
          clear hb1 ho1 hcl
          have e0 := HCL.out 0 (by omega)
          have e1 := HCL.out 1 (by omega)
          rw [HPT.out] at e0 e1
          have e0' : w0.cell? ⟨gb, 0, none⟩ = some (.string (cutF s)) := e0
          have e1' : w0.cell? ⟨gb, 1, none⟩ = some (.string (cutB s)) := e1
          have HE1 := hide e1'
          clear e0 e1 e1'
          go_wp2_with fail
          clear e0'
          refine calls_gen fun w1 hw1 => ?_
          have HB1 : Hid (Below w.heap.size w w1) := hide (by rw [hw1]; exact HBa.out)
          have HK1 : Hid (Blk w1 w.heap.size 29 [.slice none 0 0, .slice none 0 0]) := hide (by rw [hw1]; exact HKa.out)
          have HE2 : Hid (w1.cell? ⟨gb, 1, none⟩ = some (.string (cutB s)) ∧ gb < w1.heap.size) := hide (by rw [hw1]; exact ⟨HE1.out, hgb⟩)
          have HLOW : Hid (w.heap.size < w1.heap.size) := hide HK1.out.lt
          clear hw1
          refine (l01Parse_any (cutF s) f 6 false n _ (by omega) HPF.out (by simp) HN.out).mono ?_
          rintro e w2 ⟨A2, c2, rfl, hb, ho⟩
          have HB2 := hide (HB1.out.trans (hb.mono HB1.out.size))
          have HK2 := hide (HK1.out.later hb)
          have HF2 := hide ho
          have HS2 : Hid (w1.heap.size ≤ w2.heap.size) := hide hb.size
          have e1' := (hb.cell (p := ⟨gb, 1, none⟩) HE2.out.2).trans HE2.out.1
          clear hb ho
          go_wp2_with fail
          clear e1'
          refine (l01Parse_any (cutB s) g 0 true m _ (by omega) HPG.out (by simp) HM.out).mono ?_
          rintro e w3 ⟨A3, c3, rfl, hb, ho⟩
          have HB3 := hide (HB2.out.trans (hb.mono HB2.out.size))
          have HK3 := hide (HK2.out.later hb)
          have HF3 := hide (HF2.out.later hb)
          have HG3 := hide ho
          have HS3 : Hid (w2.heap.size ≤ w3.heap.size) := hide hb.size
          clear hb ho
          go_upto_region 8 with fail
          refine wp_gen fun w4 hw4 => ?_
          have HB4 : Hid (Below w.heap.size w w4) := hide (by rw [hw4]; exact HB3.out.alloc HB3.out.size _)
          have HK4 : Hid (Blk w4 w.heap.size 29 [.slice none 0 0, .slice none 0 0]) := hide (by rw [hw4]; exact HK3.out.alloc _)
          clear hw4
          have k2 := HK4.out.cell 0 _ rfl
          have k3 := HK4.out.frozen 0
          have k4 := HK4.out.cell 1 _ rfl
          have k5 := HK4.out.frozen 1
          go_wp2_with fail
          refine bp_gen fun wf hwf => ?_
          have HRF : Blk wf w.heap.size 29 [.slice none 0 0, .slice none 0 0] := by rw [hwf]; exact (HK4.out.set 0 _).set 1 _
          have hbf : Below w.heap.size w wf := by rw [hwf]; exact (HB4.out.setCell (p := ⟨w.heap.size, 0, none⟩) (Nat.le_refl _) _).setCell (p := ⟨w.heap.size, 1, none⟩) (Nat.le_refl _) _
          have q0 := HRF.cell 0 _ rfl
          have q1 := HRF.cell 1 _ rfl
          clear hwf k2 k3 k4 k5
          exact bodyPost_ret (v := .tuple #[.agg #[.slice none 0 0, .slice none 0 0], .int .i64 6]) (by simp [results, Tryd.results11, go_sem, q0, q1]) rfl ⟨_, _, _, _, rfl, hbf, _, Nat.le_refl _, hbf.size, .inl ⟨rfl, rfl⟩, .inl ⟨rfl, rfl⟩⟩
        · subst hcf
          subst hcg
          go_enter Tryd.func11, Tryd.ntmps11
          go_wp2_with fail
          refine calls_gen fun wp hwp => ?_
          replace HB0 : Hid (Below w.heap.size w wp) := hide (by rw [hwp]; exact HB0.out)
          replace HK0 : Hid (Blk wp w.heap.size 29 [.slice none 0 0, .slice none 0 0]) := hide (by rw [hwp]; exact HK0.out)
          clear hwp
          refine (l01Split_any s 124 _ hb).mono ?_
          rintro e w0 ⟨v0, rfl, hb1, ho1⟩
          rw [HL.out] at ho1
          obtain ⟨gb, cap, rfl, hgb, hcl⟩ := str_cells ho1 HL1.out
          have HCL := hide hcl
          have HBa := hide (HB0.out.trans (hb1.mono HB0.out.size))
          have HKa := hide (HK0.out.later hb1)
          clear hb1 ho1 hcl
          have e0 := HCL.out 0 (by omega)
          have e1 := HCL.out 1 (by omega)
          rw [HPT.out] at e0 e1
          have e0' : w0.cell? ⟨gb, 0, none⟩ = some (.string (cutF s)) := e0
          have e1' : w0.cell? ⟨gb, 1, none⟩ = some (.string (cutB s)) := e1
          have HE1 := hide e1'
          clear e0 e1 e1'
          go_wp2_with fail
          clear e0'
          refine calls_gen fun w1 hw1 => ?_
          have HB1 : Hid (Below w.heap.size w w1) := hide (by rw [hw1]; exact HBa.out)
          have HK1 : Hid (Blk w1 w.heap.size 29 [.slice none 0 0, .slice none 0 0]) := hide (by rw [hw1]; exact HKa.out)
          have HE2 : Hid (w1.cell? ⟨gb, 1, none⟩ = some (.string (cutB s)) ∧ gb < w1.heap.size) := hide (by rw [hw1]; exact ⟨HE1.out, hgb⟩)
          have HLOW : Hid (w.heap.size < w1.heap.size) := hide HK1.out.lt
          clear hw1
          refine (l01Parse_any (cutF s) f 6 false n _ (by omega) HPF.out (by simp) HN.out).mono ?_
          rintro e w2 ⟨A2, c2, rfl, hb, ho⟩
          have HB2 := hide (HB1.out.trans (hb.mono HB1.out.size))
          have HK2 := hide (HK1.out.later hb)
          have HF2 := hide ho
          have HS2 : Hid (w1.heap.size ≤ w2.heap.size) := hide hb.size
          have e1' := (hb.cell (p := ⟨gb, 1, none⟩) HE2.out.2).trans HE2.out.1
          clear hb ho
          go_wp2_with fail
          clear e1'
          refine (l01Parse_any (cutB s) g 6 false m _ (by omega) HPG.out (by simp) HM.out).mono ?_
          rintro e w3 ⟨A3, c3, rfl, hb, ho⟩
          have HB3 := hide (HB2.out.trans (hb.mono HB2.out.size))
          have HK3 := hide (HK2.out.later hb)
          have HF3 := hide (HF2.out.later hb)
          have HG3 := hide ho
          have HS3 : Hid (w2.heap.size ≤ w3.heap.size) := hide hb.size
          clear hb ho
          go_upto_region 8 with fail
          refine wp_gen fun w4 hw4 => ?_
          have HB4 : Hid (Below w.heap.size w w4) := hide (by rw [hw4]; exact HB3.out.alloc HB3.out.size _)
          have HK4 : Hid (Blk w4 w.heap.size 29 [.slice none 0 0, .slice none 0 0]) := hide (by rw [hw4]; exact HK3.out.alloc _)
          clear hw4
          have k2 := HK4.out.cell 0 _ rfl
          have k3 := HK4.out.frozen 0
          have k4 := HK4.out.cell 1 _ rfl
          have k5 := HK4.out.frozen 1
          go_wp2_with fail
          refine bp_gen fun wf hwf => ?_
          have HRF : Blk wf w.heap.size 29 [.slice none 0 0, .slice none 0 0] := by rw [hwf]; exact (HK4.out.set 0 _).set 1 _
          have hbf : Below w.heap.size w wf := by rw [hwf]; exact (HB4.out.setCell (p := ⟨w.heap.size, 0, none⟩) (Nat.le_refl _) _).setCell (p := ⟨w.heap.size, 1, none⟩) (Nat.le_refl _) _
          have q0 := HRF.cell 0 _ rfl
          have q1 := HRF.cell 1 _ rfl
          clear hwf k2 k3 k4 k5
          exact bodyPost_ret (v := .tuple #[.agg #[.slice none 0 0, .slice none 0 0], .int .i64 6]) (by simp [results, Tryd.results11, go_sem, q0, q1]) rfl ⟨_, _, _, _, rfl, hbf, _, Nat.le_refl _, hbf.size, .inl ⟨rfl, rfl⟩, .inl ⟨rfl, rfl⟩⟩
    · clear hL
      have hlz : ((L : Int) == 2) = false := by simpa using fun h => h2 (by omega)
      have hlz2 : ¬ (L : Int) = 2 := by omega
      go_enter Tryd.func11, Tryd.ntmps11
      go_wp2_with fail
      refine calls_gen fun wp hwp => ?_
      replace HB0 : Hid (Below w.heap.size w wp) := hide (by rw [hwp]; exact HB0.out)
      replace HK0 : Hid (Blk wp w.heap.size 29 [.slice none 0 0, .slice none 0 0]) := hide (by rw [hwp]; exact HK0.out)
      clear hwp
      refine (l01Split_any s 124 _ hb).mono ?_
      rintro e w0 ⟨v0, rfl, hb1, ho1⟩
      rw [HL.out] at ho1
      obtain ⟨gb, cap, rfl, hgb, hcl⟩ := str_cells ho1 HL1.out
      have HCL := hide hcl
      have HBa := hide (HB0.out.trans (hb1.mono HB0.out.size))
      have HKa := hide (HK0.out.later hb1)
      clear hb1 ho1 hcl
      have k2 := HKa.out.cell 0 _ rfl
      have k3 := HKa.out.frozen 0
      have k4 := HKa.out.cell 1 _ rfl
      have k5 := HKa.out.frozen 1
      go_wp2_with fail
      refine bp_gen fun wf hwf => ?_
      have HRF : Blk wf w.heap.size 29 [.slice none 0 0, .slice none 0 0] := by rw [hwf]; first | exact HKa.out | exact (HKa.out.set 0 _).set 1 _
      have hbf : Below w.heap.size w wf := by rw [hwf]; first | exact HBa.out | exact (HBa.out.setCell (p := ⟨w.heap.size, 0, none⟩) (Nat.le_refl _) _).setCell (p := ⟨w.heap.size, 1, none⟩) (Nat.le_refl _) _
      have q0 := HRF.cell 0 _ rfl
      have q1 := HRF.cell 1 _ rfl
      clear hwf k2 k3 k4 k5
      exact bodyPost_ret (v := .tuple #[.agg #[.slice none 0 0, .slice none 0 0], .int .i64 6]) (by simp [results, Tryd.results11, go_sem, q0, q1]) rfl ⟨_, _, _, _, rfl, hbf, _, Nat.le_refl _, hbf.size, .inl ⟨rfl, rfl⟩, .inl ⟨rfl, rfl⟩⟩
end Go.Proofs.YtjcopenbpbaljaaDoor
