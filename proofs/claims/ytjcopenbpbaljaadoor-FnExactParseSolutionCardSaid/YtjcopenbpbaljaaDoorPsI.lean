import Derived.Test.YtjcopenbpbaljaaDoorPsF
import Derived.Test.YtjcopenbpbaljaaDoorPtbI
import Derived.Test.YtjcopenbpbaljaaDoorMapI
import Derived.Test.YtjcopenbpbaljaaDoorZEnd
namespace Go.Proofs.YtjcopenbpbaljaaDoor
open Go Go.RowKit
set_option maxHeartbeats 4000000

theorem cut_any (s : ByteArray) (w : World) (hs : s.size ≤ 1048576) (hm : MaxL w) :
    Calls Tryd.prog 30 #[.string s, .string ⟨#[124]⟩] w fun e w' => e = .returned (.tuple #[.string (cutF s), .string (cutB s), .bool (Lib.cut s.data.toList [124]).2.2]) ∧ Quiet w w' := by
  obtain ⟨_, m, hm⟩ := hm
  refine (Tryd.strings_Cut s ⟨#[124]⟩ m w (by omega) hm).mono ?_
  rintro e w' ⟨rfl, q, rfl⟩
  exact ⟨rfl, Quiet.of _ _⟩

set_option maxRecDepth 100000 in
theorem psI_any (s : ByteArray) (zf zg : List (List Int)) (code : Int) (kz kw : Nat) (w : World) (hb : s.size ≤ 1048576) (hmx : MaxL w) (hres : PsRes s zf zg code) (hk : ZSz 1048576 zf kz zg kw) :
    Calls Tryd.prog 12 #[.string s] w (ZPost 44 2 kz kw zf zg code w) := by
  obtain ⟨f, cf, hpf, hlf, hrf⟩ := PtRes.ex (cutF s)
  obtain ⟨g, cg, hpg, hlg, hrg⟩ := PtRes.ex (cutB s)
  obtain ⟨n, hn⟩ : ∃ n, f.length = n := ⟨_, rfl⟩
  obtain ⟨m, hm⟩ : ∃ m, g.length = m := ⟨_, rfl⟩
  have hcs := cut_size s
  have HPF := hide hpf
  have HPG := hide hpg
  have HZS : Hid (ZSz 1048576 f n g m) := hide ⟨hn, by rw [← hn]; exact hlf, hrf, hm, by rw [← hm]; exact hlg, hrg⟩
  have HN := hide hn
  have HM := hide hm
  have HMX := hide hmx
  have HB0 := hide ((Below.refl _ w).alloc (Nat.le_refl _) (Obj.cells #[.slice none 0 0, .slice none 0 0] 29))
  have HK0 := hide (Blk.new w 29 [.slice none 0 0, .slice none 0 0])
  rcases hres with ⟨hg, rfl, rfl, rfl⟩ | ⟨hg, rfl, rfl, rfl⟩
  · obtain ⟨h1, h2, h3, h4⟩ := psG_eq hpf hpg hg
    have hkn : n = kz := by rw [← hn, h1]; exact hk.fl
    have hkm : m = kw := by rw [← hm, h3]; exact hk.sl
    subst hkn
    subst hkm
    subst h2
    subst h4
    rw [← h1, ← h3]
    have HMP : Hid (PMap f g) := hide ((psG_iff hpf hpg).2 hg)

    clear h1 h3 hg hpf hpg hn hm hk hrf hrg hmx
    go_enter Tryd.func12, Tryd.ntmps12
    go_wp2_with fail
    refine calls_gen fun wp hwp => ?_
    replace HB0 : Hid (Below w.heap.size w wp) := hide (by rw [hwp]; exact HB0.out)
    replace HK0 : Hid (Blk wp w.heap.size 29 [.slice none 0 0, .slice none 0 0]) := hide (by rw [hwp]; exact HK0.out)
    clear hwp
    refine (cut_any s _ hb (HMX.out.later HB0.out)).mono ?_
    rintro e w1 ⟨rfl, hq⟩
    have HB1 := hide (HB0.out.trans (hq.below _))
    have HK1 := hide (HK0.out.later (hq.below _))
    have HLOW : Hid (w.heap.size < w1.heap.size) := hide HK1.out.lt
    clear hq
    go_wp2_with fail
    refine (parseTableI (cutF s) f 0 n _ (by omega) (HMX.out.later HB1.out) HPF.out HN.out).mono ?_
    rintro e w2 ⟨A2, c2, rfl, hb, ho⟩
    have HB2 := hide (HB1.out.trans (hb.mono HB1.out.size))
    have HK2 := hide (HK1.out.later hb)
    have HF2 := hide ho
    have HS2 : Hid (w1.heap.size ≤ w2.heap.size) := hide hb.size
    clear hb ho
    go_wp2_with fail
    refine (parseTableI (cutB s) g 0 m _ (by omega) (HMX.out.later HB2.out) HPG.out HM.out).mono ?_
    rintro e w3 ⟨A3, c3, rfl, hb, ho⟩
    have HB3 := hide (HB2.out.trans (hb.mono HB2.out.size))
    have HK3 := hide (HK2.out.later hb)
    have HF3 := hide (HF2.out.later hb)
    have HG3 := hide ho
    have HS3 : Hid (w2.heap.size ≤ w3.heap.size) := hide hb.size
    clear hb ho
    go_wp2_with fail
    refine calls_gen fun w4 hw4 => ?_
    have hb4 : Below w3.heap.size w3 w4 := by rw [hw4]; exact (Below.refl _ _).alloc (Nat.le_refl _) _
    have HB4 := hide (HB3.out.trans (hb4.mono HB3.out.size))
    have HK4 := hide (HK3.out.later hb4)
    have HF4 := hide (HF3.out.later hb4)
    have HG4 := hide (HG3.out.later hb4)
    have HS4 : Hid (Blk w4 w3.heap.size 29 [.slice A2 n c2, .slice A3 m c3]) := hide (by rw [hw4]; exact Blk.new _ _ _)
    clear hw4 hb4
    refine (mapI_any _ _ _ f _ _ _ g true _ ⟨HZS.out, HF4.out.rd, HG4.out.rd⟩ ⟨fun _ => HMP.out, fun _ => rfl⟩).mono ?_
    rintro e w5 ⟨rfl, hb5⟩
    have HB5 := hide (HB4.out.trans (hb5.mono HB4.out.size))
    have HK5 := hide (HK4.out.later hb5)
    have HF5 := hide (HF4.out.later hb5)
    have HG5 := hide (HG4.out.later hb5)
    have HS5 := hide (HS4.out.later hb5)
    have hs5 := hb5.size
    clear hb5
    have k0 := HS5.out.cell 0 _ rfl
    have k1 := HS5.out.cell 1 _ rfl
    have k2 := HK5.out.cell 0 _ rfl
    have k3 := HK5.out.frozen 0
    have k4 := HK5.out.cell 1 _ rfl
    have k5 := HK5.out.frozen 1
    have hlow := HLOW.out
    have hs2 := HS2.out
    have hs3 := HS3.out
    have hsl := HS4.out.lt
    go_wp2_with fail
    refine bp_gen fun wf hwf => ?_
    obtain ⟨q0, q1, hbf, hof⟩ := zend (w2 := w1) hwf HK5.out (Nat.le_refl _) hlow HB5.out (by omega) ⟨w2.heap.size, by omega, by omega, HF5.out, HG5.out.mono (Nat.le_refl _) (by omega)⟩
    clear hwf k0 k1 k2 k3 k4 k5
    exact bodyPost_ret (v := .tuple #[.agg #[.slice A2 n c2, .slice A3 m c3], .int .i64 0]) (by simp [results, Tryd.results12, go_sem, q0, q1]) rfl ⟨_, _, _, _, rfl, hbf, hof⟩
  · have hkz : kz = 0 := by rw [← hk.fl]; rfl
    have hkw : kw = 0 := by rw [← hk.sl]; rfl
    subst hkz
    subst hkw
    have HMP : Hid (¬ PMap f g) := hide (fun h => absurd ((psG_iff hpf hpg).1 h) hg)

    clear hg hpf hpg hn hm hk hrf hrg hmx
    go_enter Tryd.func12, Tryd.ntmps12
    go_wp2_with fail
    refine calls_gen fun wp hwp => ?_
    replace HB0 : Hid (Below w.heap.size w wp) := hide (by rw [hwp]; exact HB0.out)
    replace HK0 : Hid (Blk wp w.heap.size 29 [.slice none 0 0, .slice none 0 0]) := hide (by rw [hwp]; exact HK0.out)
    clear hwp
    refine (cut_any s _ hb (HMX.out.later HB0.out)).mono ?_
    rintro e w1 ⟨rfl, hq⟩
    have HB1 := hide (HB0.out.trans (hq.below _))
    have HK1 := hide (HK0.out.later (hq.below _))
    have HLOW : Hid (w.heap.size < w1.heap.size) := hide HK1.out.lt
    clear hq
    go_wp2_with fail
    refine (parseTableI (cutF s) f cf n _ (by omega) (HMX.out.later HB1.out) HPF.out HN.out).mono ?_
    rintro e w2 ⟨A2, c2, rfl, hb, ho⟩
    have HB2 := hide (HB1.out.trans (hb.mono HB1.out.size))
    have HK2 := hide (HK1.out.later hb)
    have HF2 := hide ho
    have HS2 : Hid (w1.heap.size ≤ w2.heap.size) := hide hb.size
    clear hb ho
    go_wp2_with fail
    refine (parseTableI (cutB s) g cg m _ (by omega) (HMX.out.later HB2.out) HPG.out HM.out).mono ?_
    rintro e w3 ⟨A3, c3, rfl, hb, ho⟩
    have HB3 := hide (HB2.out.trans (hb.mono HB2.out.size))
    have HK3 := hide (HK2.out.later hb)
    have HF3 := hide (HF2.out.later hb)
    have HG3 := hide ho
    have HS3 : Hid (w2.heap.size ≤ w3.heap.size) := hide hb.size
    clear hb ho
    go_wp2_with fail
    refine calls_gen fun w4 hw4 => ?_
    have hb4 : Below w3.heap.size w3 w4 := by rw [hw4]; exact (Below.refl _ _).alloc (Nat.le_refl _) _
    have HB4 := hide (HB3.out.trans (hb4.mono HB3.out.size))
    have HK4 := hide (HK3.out.later hb4)
    have HF4 := hide (HF3.out.later hb4)
    have HG4 := hide (HG3.out.later hb4)
    have HS4 : Hid (Blk w4 w3.heap.size 29 [.slice A2 n c2, .slice A3 m c3]) := hide (by rw [hw4]; exact Blk.new _ _ _)
    clear hw4 hb4
    refine (mapI_any _ _ _ f _ _ _ g false _ ⟨HZS.out, HF4.out.rd, HG4.out.rd⟩ ⟨fun h => (by cases h), fun h => absurd h HMP.out⟩).mono ?_
    rintro e w5 ⟨rfl, hb5⟩
    have HB5 := hide (HB4.out.trans (hb5.mono HB4.out.size))
    have HK5 := hide (HK4.out.later hb5)
    have HF5 := hide (HF4.out.later hb5)
    have HG5 := hide (HG4.out.later hb5)
    have HS5 := hide (HS4.out.later hb5)
    have hs5 := hb5.size
    clear hb5
    have k2 := HK5.out.cell 0 _ rfl
    have k3 := HK5.out.frozen 0
    have k4 := HK5.out.cell 1 _ rfl
    have k5 := HK5.out.frozen 1
    go_wp2_with fail
    refine bp_gen fun wf hwf => ?_
    have HRF : Blk wf w.heap.size 29 [.slice none 0 0, .slice none 0 0] := by rw [hwf]; first | exact HK5.out | exact (HK5.out.set 0 _).set 1 _
    have hbf : Below w.heap.size w wf := by rw [hwf]; first | exact HB5.out | exact (HB5.out.setCell (p := ⟨w.heap.size, 0, none⟩) (Nat.le_refl _) _).setCell (p := ⟨w.heap.size, 1, none⟩) (Nat.le_refl _) _
    have q0 := HRF.cell 0 _ rfl
    have q1 := HRF.cell 1 _ rfl
    clear hwf k2 k3 k4 k5
    exact bodyPost_ret (v := .tuple #[.agg #[.slice none 0 0, .slice none 0 0], .int .i64 6]) (by simp [results, Tryd.results12, go_sem, q0, q1]) rfl ⟨_, _, _, _, rfl, hbf, _, Nat.le_refl _, hbf.size, .inl ⟨rfl, rfl⟩, .inl ⟨rfl, rfl⟩⟩
end Go.Proofs.YtjcopenbpbaljaaDoor
