import Derived.Test.YthkhkehpmolfaaaZbt
import Derived.Test.YthkhkehpmolfaaaZy
import Derived.Test.YthkhkehpmolfaaaZap
import Derived.Test.YthkhkehpmolfaaaZi
namespace Go.Proofs.Ythkhkehpmolfaaa
open Go Go.RowKit
set_option maxHeartbeats 2000000

set_option maxRecDepth 100000 in
theorem roI_any (A : Option Addr) (n c : Nat) (f : List (List Int)) (zs : List Int) (code : Int) (k : Nat) (w : World) (hn : f.length = n) (hb : n ≤ 1048576) (hbs : ∀ i, i < f.length → (f.getD i []).length ≤ 1048576) (hr : Rd2 w A f) (hres : RoRes f zs code) (hk : zs.length = k) :
    Calls Try.prog 42 #[.agg #[.slice A n c]] w (RPost 2 k zs code w) := by
  have HN := hide hn
  have HBS := hide hbs
  have HRD := hide hr
  have HB0 := hide ((Below.refl _ w).alloc (Nat.le_refl _) (Obj.cells #[Value.slice A n c] 27))
  have HK0 := hide (Blk.new w 27 [.slice A n c])
  rcases hres with ⟨hcy, rfl, rfl⟩ | ⟨hcy, rfl, rfl⟩
  · have hk2 : k = n := by rw [← hk, roL_length, hn]
    subst hk2
    have HZ : Hid ((roL f).length = k) := hide ((roL_length f).trans hn)
    have HPM := hide hcy.prm
    clear hn hbs hr hk
    have hmk := run_make_row' (P := Try.prog) 31 2 (.int .i64 0) 8 Try.underlying31 kqInfo rfl .i64 .i64 k (by omega) (by omega)
    have HCY := hide hcy
    have HTB := hide hcy.tbl
    have h1 : 1 ≤ k := by rw [← HN.out]; exact HTB.out.1
    have h12 : k ≤ 12 := by rw [← HN.out]; exact HTB.out.2.1
    have HCR : Hid (CyRes f true) := hide ⟨fun _ => HCY.out, fun _ => rfl⟩
    clear hcy
    go_enter Try.func42, Try.ntmps42
    have k0 := HK0.out.cell 0 _ rfl
    go_wp2_with fail
    refine (isCycIW _ _ _ f true _ HN.out hb HBS.out (HRD.out.later HB0.out) HCR.out).mono ?_
    rintro e w1 ⟨rfl, hb1⟩
    have HB1 := hide (HB0.out.trans (hb1.mono HB0.out.size))
    have HK1 := hide (HK0.out.later hb1)
    clear hb1 k0
    have k0 := HK1.out.cell 0 _ rfl
    have k2 := fun o => (HK1.out.alloc o).cell 0 _ rfl
    go_wp2_with fail
    clear hmk k2
    refine wp_gen fun w2 hw2 => ?_
    obtain ⟨G, hG⟩ : ∃ G, w1.heap.size = G := ⟨_, rfl⟩
    have hgw : w.heap.size < G := by have := HK1.out.lt; omega
    have HB2 : Hid (Below w.heap.size w w2) := hide (by rw [hw2]; exact HB1.out.alloc HB1.out.size _)
    have HROW2 : Hid (OwnB 2 w2 G (List.replicate k 0)) := hide (by have h : Row 2 w2 G (List.replicate k 0) := (by rw [hw2, ← hG]; simpa using Row.made 2 w1 k); exact h.own)
    rw [hG]
    clear hw2 hG k0
    go_loopw [17] (fun i wr => ∃ j : Nat, j ≤ k ∧ i = .int .i64 j ∧ Below w.heap.size w wr ∧ OwnB 2 wr G ((roL f).take j ++ List.replicate (k - j) 0)) (fun i _ => k - (intOf i).toNat)
    case atStart => exact ⟨0, Nat.zero_le _, rfl, HB2.out, by simpa using HROW2.out⟩
    case round =>
      obtain ⟨j, hj, rfl, hbe, hrow⟩ := hrel
      have HBc := hide hbe
      have HOc := hide hrow
      clear hbe hrow
      by_cases hlt : j < k
      · have hltz : (j : Int) < k := by omega
        have hkl : Hid (j < f.length) := hide (by have := HN.out; omega)
        obtain ⟨b, o, hA, hbw, hc⟩ := (HRD.out.later HBc.out) (by have := hkl.out; omega)
        obtain ⟨Ak, ck, hcell, hrd⟩ := hc j hkl.out
        have hlen := HTB.out.row_len HN.out hlt
        rw [hlen] at hcell
        have HL := hide hlen
        have HRR := hide hrd
        have HPK := hide (HPM.out j hkl.out)
        have hl : ((roL f).take j ++ List.replicate (k - j) 0).length = k := by have := HZ.out; simp; omega
        have HLL := hide hl
        have hg : (roL f).getD j 0 = ((ordV (f.getD j []) : Nat) : Int) := roL_getD f j hkl.out
        have HG := hide hg
        subst hA
        clear hc hrd hlen hl hg
        go_wp2_with fail
        refine (order_any Ak k ck (f.getD j []) _ HL.out HPK.out HRR.out).mono ?_
        rintro e wd ⟨ys, hys, rfl, hbd⟩
        rw [ordV_of HL.out HPK.out hys]
        obtain ⟨u, hu⟩ : ∃ u, ordV (f.getD j []) = u := ⟨_, rfl⟩
        rw [hu] at HG ⊢
        have HBd := hide (HBc.out.trans (hbd.mono HBc.out.size))
        have HOd := hide (HOc.out.later hbd HOc.out.lt)
        clear hbd hys hu
        have h2 := HOd.out.cell (i := j) (by have := HLL.out; omega)
        have h3 := HOd.out.frozen j
        go_wp2_with fail
        go_roundw
        case rel =>
          have hst := HOd.out.set j (u : Int) (by have := HLL.out; omega)
          have hg := HG.out
          rw [← hg, kq_fill (roL f) k j HZ.out hlt, hg] at hst
          exact ⟨j + 1, by omega, by go_num, HBd.out.setCell (p := ⟨G, j, none⟩) (by show w.heap.size ≤ G; omega) _, hst⟩
        case measure => simp [intOf]; omega
      · have hjk : j = k := by omega
        subst hjk
        go_wp2_with fail
        have h := HOc.out
        have hz := HZ.out
        rw [Nat.sub_self, List.replicate_zero, List.append_nil, List.take_of_length_le (by omega)] at h
        go_ret2
        exact ⟨_, _, rfl, HBc.out, .inr ⟨G, rfl, by omega, h⟩⟩
  · obtain rfl : k = 0 := by rw [← hk]; rfl
    clear hn hbs hr hk
    have HCR : Hid (CyRes f false) := hide ⟨fun h => (by cases h), fun h => absurd h hcy⟩
    clear hcy
    go_enter Try.func42, Try.ntmps42
    have k0 := HK0.out.cell 0 _ rfl
    go_wp2_with fail
    refine (isCycIW _ _ _ f false _ HN.out hb HBS.out (HRD.out.later HB0.out) HCR.out).mono ?_
    rintro e w1 ⟨rfl, hb1⟩
    have HB1 := hide (HB0.out.trans (hb1.mono HB0.out.size))
    have HK1 := hide (HK0.out.later hb1)
    clear hb1 k0
    go_wp2_with fail
    go_ret2
    exact ⟨_, _, rfl, HB1.out, .inl ⟨rfl, rfl⟩⟩

set_option maxRecDepth 100000 in
theorem roS_any (A : Option Addr) (n c : Nat) (f : List (List Int)) (zs : List Int) (code : Int) (k : Nat) (w : World) (hn : f.length = n) (hb : n ≤ 1048576) (hbs : ∀ i, i < f.length → (f.getD i []).length ≤ 1048576) (hr : Rd2 w A f) (hres : RoRes f zs code) (hk : zs.length = k) :
    Calls Try.prog 41 #[.agg #[.slice A n c]] w (RPost 2 k zs code w) := by
  have HN := hide hn
  have HBS := hide hbs
  have HRD := hide hr
  have HB0 := hide ((Below.refl _ w).alloc (Nat.le_refl _) (Obj.cells #[Value.slice A n c] 27))
  have HK0 := hide (Blk.new w 27 [.slice A n c])
  rcases hres with ⟨hcy, rfl, rfl⟩ | ⟨hcy, rfl, rfl⟩
  · have hk2 : k = n := by rw [← hk, roL_length, hn]
    subst hk2
    have HZ : Hid ((roL f).length = k) := hide ((roL_length f).trans hn)
    have HPM := hide hcy.prm
    clear hn hbs hr hk
    obtain ⟨i0, hi, hz0, hz1, hz2⟩ := info_parts kqInfo
    have HCY := hide hcy
    have HTB := hide hcy.tbl
    have h1 : 1 ≤ k := by rw [← HN.out]; exact HTB.out.1
    have h12 : k ≤ 12 := by rw [← HN.out]; exact HTB.out.2.1
    have HCR : Hid (CyRes f true) := hide ⟨fun _ => HCY.out, fun _ => rfl⟩
    clear hcy
    go_enter Try.func41, Try.ntmps41
    have k0 := HK0.out.cell 0 _ rfl
    go_wp2_with fail
    refine (isCycS _ _ _ f true _ HN.out hb HBS.out (HRD.out.later HB0.out) HCR.out).mono ?_
    rintro e w1 ⟨rfl, hb1⟩
    have HB1 := hide (HB0.out.trans (hb1.mono HB0.out.size))
    have HK1 := hide (HK0.out.later hb1)
    clear hb1 k0
    obtain ⟨b, o, hA, hbw, hc⟩ := rd_rows HTB.out HRD.out HN.out
    subst hA
    have HC := hide hc
    clear hc
    have k0 := HK1.out.cell 0 _ rfl
    go_wp2_with fail
    refine wp_gen fun w2 hw2 => ?_
    obtain ⟨G, hG⟩ : ∃ G, w1.heap.size = G := ⟨_, rfl⟩
    have hgw : w.heap.size < G := by have := HK1.out.lt; omega
    have HB2 : Hid (Below w.heap.size w w2) := hide (by rw [hw2]; exact HB1.out.alloc HB1.out.size _)
    have HK2 : Hid (Blk w2 w.heap.size 27 [.slice (some ⟨b, o, none⟩) k c]) := hide (by rw [hw2]; exact HK1.out.alloc _)
    have HE2 : Hid (w2.ownsRow G 2 1 (.slice (some ⟨G, 0, none⟩) 0 0) 0 []) := hide (by rw [hw2, ← hG]; exact kq_empty w1 2)
    have hg2 : G ≤ w2.heap.size := by rw [hw2]; simp; omega
    rw [hG]
    clear hw2 hG k0
    go_loopw [4, 5] (fun v i wr => ∃ j : Nat, j ≤ k ∧ i = .int .i64 j ∧ Below w.heap.size w wr ∧ Blk wr w.heap.size 27 [.slice (some ⟨b, o, none⟩) k c] ∧ wr.ownsRow G 2 1 v j (ints ((roL f).take j)) ∧ G ≤ wr.heap.size) (fun _ i _ => k - (intOf i).toNat)
    case atStart => exact ⟨0, Nat.zero_le _, rfl, HB2.out, HK2.out, by simpa [ints] using HE2.out, hg2⟩
    case round =>
      obtain ⟨j, hj, rfl, hbe, hkk, hown, hsz⟩ := hrel
      have HB := hide hbe
      have HK := hide hkk
      have HO := hide hown
      clear hbe hkk hown
      have k0 := HK.out.cell 0 _ rfl
      by_cases hlt : j < k
      · have hltz : (j : Int) < k := by omega
        have hkl : Hid (j < f.length) := hide (by have := HN.out; omega)
        obtain ⟨Ak, ck, r1, hrd⟩ := HC.out j hlt
        have HL := hide (HTB.out.row_len HN.out hlt)
        have HRR := hide (hrd.later HB.out)
        have HPK := hide (HPM.out j hkl.out)
        have hos := ordV_spec HL.out HPK.out
        have HG : Hid ((roL f).getD j 0 = ((ordV (f.getD j []) : Nat) : Int)) := hide (roL_getD f j hkl.out)
        have HOS := hide hos
        replace r1 := (HB.out.cell (p := ⟨b, o + j, none⟩) hbw).trans r1
        clear hrd hos
        obtain ⟨u, hu⟩ : ∃ u, ordV (f.getD j []) = u := ⟨_, rfl⟩
        rw [hu] at HG HOS
        clear hu
        go_wp2_with fail
        refine (l01Order_any Ak k ck (f.getD j []) u _ HL.out HPK.out HRR.out HOS.out.1 HOS.out.2.1 HOS.out.2.2).mono ?_
        rintro e wd ⟨rfl, hbd⟩
        have HBd := hide (HB.out.trans (hbd.mono HB.out.size))
        have HKd := hide (HK.out.later hbd)
        have HOd := hide (ownsRow_below HO.out hbd)
        have hsd : G ≤ wd.heap.size := by have := hbd.size; omega
        clear hbd k0 r1
        go_wp2_with (at_builtin; refine wpList_append_own _ rfl _ _ 31 rfl G 2 i0 (.int .i64 0) 1 8 Try.underlying31 hi hz0 hz1 hz2 rfl (by decide) _ _ _ rfl (HOd.out.alloc _) ⟨wd.heap.size, 0, none⟩ 1 1 [.int .i64 (u : Int)] rfl rfl ?c1 ?c2 ?c3 ?c4 ?c5 ?_)
        case c1 => exact kq_new
        case c2 => intro u hu; simp at hu; subst hu; rfl
        case c3 => unfold maxLen; omega
        case c4 => omega
        case c5 => simp; omega
        intro v' w3 hown' hgrow _
        have HO' := hide hown'
        have HGR := hide hgrow
        clear hown' hgrow
        go_wp2_with fail
        go_roundw
        case rel =>
          have hlow : w.heap.size ≤ wd.heap.size := by omega
          have hs1 : G ≤ (wd.alloc (.cells #[.int .i64 (u : Int)] 2)).heap.size := by simp; omega
          have hB1 : Below w.heap.size w w3 := (HBd.out.alloc hlow _).grown HGR.out (by simp; omega) (fun g hg => by have h := ((HOd.out.alloc (.cells #[.int .i64 (u : Int)] 2)).lt g hg).1; omega)
          have hB2 : Below G (wd.alloc (.cells #[.int .i64 (u : Int)] 2)) w3 := (Below.refl _ _).grown HGR.out hs1 (fun g hg => ((HOd.out.alloc (.cells #[.int .i64 (u : Int)] 2)).lt g hg).1)
          have hK1 : Blk w3 w.heap.size 27 [.slice (some ⟨b, o, none⟩) k c] := (hB2.block w.heap.size (by omega)).trans (HKd.out.alloc _)
          refine ⟨j + 1, by omega, by go_num, hB1, hK1, ?_, by have := hB2.size; simp at this; omega⟩
          have h := HO'.out
          rw [kq_take _ j (u : Int) (by have := HZ.out; omega) HG.out] at h
          exact h
        case measure => simp [intOf]; omega
      · have hjk : j = k := by omega
        subst hjk
        have h := HO.out
        rw [List.take_of_length_le (by have := HZ.out; omega)] at h
        obtain ⟨A', c', hv, hres⟩ := own_shape h
        subst hv
        have HRS := hide (hres.mono (by omega : w.heap.size ≤ G))
        clear h hres HO
        go_wp2_with fail
        go_ret2
        exact ⟨_, _, rfl, HB.out, HRS.out⟩
  · obtain rfl : k = 0 := by rw [← hk]; rfl
    clear hn hbs hr hk
    have HCR : Hid (CyRes f false) := hide ⟨fun h => (by cases h), fun h => absurd h hcy⟩
    clear hcy
    go_enter Try.func41, Try.ntmps41
    have k0 := HK0.out.cell 0 _ rfl
    go_wp2_with fail
    refine (isCycS _ _ _ f false _ HN.out hb HBS.out (HRD.out.later HB0.out) HCR.out).mono ?_
    rintro e w1 ⟨rfl, hb1⟩
    have HB1 := hide (HB0.out.trans (hb1.mono HB0.out.size))
    have HK1 := hide (HK0.out.later hb1)
    clear hb1 k0
    go_wp2_with fail
    go_ret2
    exact ⟨_, _, rfl, HB1.out, .inl ⟨rfl, rfl⟩⟩

end Go.Proofs.Ythkhkehpmolfaaa
