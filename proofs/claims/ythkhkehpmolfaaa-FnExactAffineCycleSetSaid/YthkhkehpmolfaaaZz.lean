import Derived.Test.YthkhkehpmolfaaaZv
import Derived.Test.YthkhkehpmolfaaaZy
import Derived.Test.YthkhkehpmolfaaaZs
import Derived.Test.YthkhkehpmolfaaaZi
import Derived.Test.YthkhkehpmolfaaaZn
import Derived.Deep.Cut
import Derived.Deep.DeepCutAuto
namespace Go.Proofs.Ythkhkehpmolfaaa
open Go Go.RowKit
set_option maxHeartbeats 2000000

set_option maxRecDepth 100000 in
theorem afC_any (n a b c pn pa pb pc : Nat) (w : World) (h1 : 1 ≤ n) (h12 : n ≤ 12) (ha12 : a ≤ 12) (hb12 : b ≤ 12) (hc12 : c ≤ 12) (kn : Blk w pn 2 [.int .i64 n]) (ka : Blk w pa 2 [.int .i64 a]) (kb : Blk w pb 2 [.int .i64 b]) (kc : Blk w pc 2 [.int .i64 c]) :
    CellFn Try.prog 78 #[.pointer (some ⟨pa, 0, none⟩), .pointer (some ⟨pb, 0, none⟩), .pointer (some ⟨pc, 0, none⟩), .pointer (some ⟨pn, 0, none⟩)] n (afH n a b c) w := by
  intro W x y hx hy hb
  have KN := hide (kn.later hb)
  have KA := hide (ka.later hb)
  have KB := hide (kb.later hb)
  have KC := hide (kc.later hb)
  clear kn ka kb kc hb
  show Calls Try.prog 78 #[.int .i64 x, .int .i64 y, .pointer (some ⟨pa, 0, none⟩), .pointer (some ⟨pb, 0, none⟩), .pointer (some ⟨pc, 0, none⟩), .pointer (some ⟨pn, 0, none⟩)] W _
  obtain ⟨p, hp⟩ : ∃ p, a * x = p := ⟨_, rfl⟩
  obtain ⟨q, hq⟩ : ∃ q, b * y = q := ⟨_, rfl⟩
  have hp1 : p ≤ 144 := by rw [← hp]; exact Nat.le_trans (Nat.mul_le_mul ha12 (by omega : x ≤ 12)) (Nat.le_refl _)
  have hq1 : q ≤ 144 := by rw [← hq]; exact Nat.le_trans (Nat.mul_le_mul hb12 (by omega : y ≤ 12)) (Nat.le_refl _)
  have t1 : (a : Int) * (x : Int) = (p : Int) := by rw [← hp]; simp
  have t2 : (b : Int) * (y : Int) = (q : Int) := by rw [← hq]; simp

  have HCELL : Hid (afH n a b c x y = (((p : Int) + (q : Int) + (c : Int)) % (n : Int))) := hide (by unfold afH; rw [hp, hq]; push_cast; rfl)
  clear hp hq
  have k0 := KN.out.cell 0 _ rfl
  have k1 := KA.out.cell 0 _ rfl
  have k2 := KB.out.cell 0 _ rfl
  have k3 := KC.out.cell 0 _ rfl
  go_enter Try.func78, Try.ntmps78
  go_wp2_with fail
  refine (remainder_any _ n _ h1 (by omega) (by omega) (by omega)).mono ?_
  rintro e w1 ⟨rfl, hb1⟩
  rw [← HCELL.out]
  have HB1 := hide hb1
  clear hb1 k0 k1 k2 k3
  go_wp2_with fail
  go_ret
  exact ⟨rfl, HB1.out⟩

set_option maxRecDepth 100000 in
theorem afI_any (n a b c : Int) (zs : List (List Int)) (code : Int) (k : Nat) (w : World) (hn0 : -9223372036854775808 ≤ n) (hn1 : n ≤ 9223372036854775807) (ha0 : -9223372036854775808 ≤ a) (ha1 : a ≤ 9223372036854775807) (hb0 : -9223372036854775808 ≤ b) (hb1 : b ≤ 9223372036854775807) (hc0 : -9223372036854775808 ≤ c) (hc1 : c ≤ 9223372036854775807) (hres : AfRes n a b c zs code) (hk : zs.length = k) :
    Calls Try.prog 40 #[.int .i64 n, .int .i64 a, .int .i64 b, .int .i64 c] w (fun e w' => ∃ A' c', e = .returned (.tuple #[.agg #[.slice A' k c'], .int .i64 code]) ∧ Below w.heap.size w w' ∧ Obj2 31 2 w.heap.size w'.heap.size w' A' zs) := by
  have HRES := hide hres
  have HKZ := hide hk
  clear hres hk
  go_enter Try.func40, Try.ntmps40
  go_upto_region 1 with fail
  refine wp_gen fun w0 hw0 => ?_
  have KN : Hid (Blk w0 (w.heap.size) 2 [.int .i64 n]) := hide (by rw [hw0]; have h := (((((Blk.new w 2 [.int .i64 n]).alloc (Obj.cells #[Value.int .i64 a] 2)).alloc (Obj.cells #[Value.int .i64 b] 2)).alloc (Obj.cells #[Value.int .i64 c] 2)).alloc (Obj.cells #[.slice none 0 0] 27)); simpa using h)
  have KA : Hid (Blk w0 (w.heap.size + 1) 2 [.int .i64 a]) := hide (by rw [hw0]; have h := ((((Blk.new (World.alloc w (Obj.cells #[Value.int .i64 n] 2)) 2 [.int .i64 a]).alloc (Obj.cells #[Value.int .i64 b] 2)).alloc (Obj.cells #[Value.int .i64 c] 2)).alloc (Obj.cells #[.slice none 0 0] 27)); simpa using h)
  have KB : Hid (Blk w0 (w.heap.size + 1 + 1) 2 [.int .i64 b]) := hide (by rw [hw0]; have h := (((Blk.new (World.alloc (World.alloc w (Obj.cells #[Value.int .i64 n] 2)) (Obj.cells #[Value.int .i64 a] 2)) 2 [.int .i64 b]).alloc (Obj.cells #[Value.int .i64 c] 2)).alloc (Obj.cells #[.slice none 0 0] 27)); simpa using h)
  have KC : Hid (Blk w0 (w.heap.size + 1 + 1 + 1) 2 [.int .i64 c]) := hide (by rw [hw0]; have h := ((Blk.new (World.alloc (World.alloc (World.alloc w (Obj.cells #[Value.int .i64 n] 2)) (Obj.cells #[Value.int .i64 a] 2)) (Obj.cells #[Value.int .i64 b] 2)) 2 [.int .i64 c]).alloc (Obj.cells #[.slice none 0 0] 27)); simpa using h)
  have HK0 : Hid (Blk w0 (w.heap.size + 1 + 1 + 1 + 1) 27 [.slice none 0 0]) := hide (by rw [hw0]; have h := (Blk.new (World.alloc (World.alloc (World.alloc (World.alloc w (Obj.cells #[Value.int .i64 n] 2)) (Obj.cells #[Value.int .i64 a] 2)) (Obj.cells #[Value.int .i64 b] 2)) (Obj.cells #[Value.int .i64 c] 2)) 27 [.slice none 0 0]); simpa using h)
  have HB0 : Hid (Below w.heap.size w w0) := hide (by rw [hw0]; exact (((((Below.refl _ _).alloc (Nat.le_refl _) _).alloc (by simp) _).alloc (by simp; omega) _).alloc (by simp; omega) _).alloc (by simp; omega) _)
  clear hw0
  go_cut [28] (fun v wx => ∃ r : Bool, v = .bool r ∧ (r = true ↔ ¬ AfR n a b c) ∧ Below w0.heap.size w0 wx)
  case first =>
    have k0 := KN.out.cell 0 _ rfl
    go_wp2_with fail
    by_cases rn : 1 ≤ n ∧ n ≤ 12
    rotate_left
    · have HNO : Hid (¬ AfR n a b c) := hide fun h => rn h.1
      refine (isSize_any _ false _ (by simp; omega)).mono ?_
      rintro e w1 ⟨rfl, hq⟩
      have hbq : Below w0.heap.size w0 w1 := hq.below _
      have KN1 := hide (KN.out.later hbq)
      have KA1 := hide (KA.out.later hbq)
      have KB1 := hide (KB.out.later hbq)
      have KC1 := hide (KC.out.later hbq)
      have HBQ := hide hbq
      clear hq hbq k0

      clear rn
      go_wp2_with fail
      go_meet
      exact ⟨_, rfl, (by simp; exact HNO.out), HBQ.out⟩
    refine (isSize_any _ true _ (by simp; omega)).mono ?_
    rintro e w1 ⟨rfl, hq⟩
    have hbq : Below w0.heap.size w0 w1 := hq.below _
    have KN1 := hide (KN.out.later hbq)
    have KA1 := hide (KA.out.later hbq)
    have KB1 := hide (KB.out.later hbq)
    have KC1 := hide (KC.out.later hbq)
    have HBQ := hide hbq
    clear hq hbq k0

    have RN := hide rn
    clear rn
    have k0 := KN1.out.cell 0 _ rfl
    have k1 := KA1.out.cell 0 _ rfl
    have k2 := KB1.out.cell 0 _ rfl
    have k3 := KC1.out.cell 0 _ rfl
    have tri : ∀ x y : Int, (x < y ∧ ¬ y < x) ∨ (¬ x < y ∧ y < x) ∨ (¬ x < y ∧ ¬ y < x) := fun x y => by omega
    rcases tri a b with ⟨ab, ba⟩ | ⟨ab, ba⟩ | ⟨ab, ba⟩ <;> rcases tri b c with ⟨bc, cb⟩ | ⟨bc, cb⟩ | ⟨bc, cb⟩ <;> rcases tri a c with ⟨ac, ca⟩ | ⟨ac, ca⟩ | ⟨ac, ca⟩ <;> first | (exfalso; omega) | skip
    all_goals clear tri
    all_goals go_wp2_with fail
    all_goals go_meet
    all_goals refine ⟨_, rfl, ?_, HBQ.out⟩
    all_goals have rn := RN.out
    all_goals unfold AfR
    all_goals simp
    all_goals omega
  case rest =>
    obtain ⟨r, rfl, hr, hbx⟩ := hcut
    have HRR := hide hr
    have HB1 := hide (HB0.out.trans (hbx.mono HB0.out.size))
    replace KN := hide (KN.out.later hbx)
    replace KA := hide (KA.out.later hbx)
    replace KB := hide (KB.out.later hbx)
    replace KC := hide (KC.out.later hbx)
    have HK1 := hide (HK0.out.later hbx)
    clear hr hbx
    cases r with
    | true =>
      have hno : ¬ AfR n a b c := HRR.out.1 rfl
      obtain ⟨rfl, rfl⟩ : zs = [] ∧ code = 2 := by
        rcases HRES.out with ⟨h, _⟩ | ⟨h, _⟩ | ⟨_, h⟩
        · exact absurd h hno
        · exact absurd h hno
        · exact h
      obtain rfl : k = 0 := by rw [← HKZ.out]; rfl
      have k2 := HK1.out.cell 0 _ rfl
      have k3 := HK1.out.frozen 0
      go_wp2_with fail
      refine bp_gen fun wf hwf => ?_
      have HRF : Blk wf (w.heap.size + 1 + 1 + 1 + 1) 27 [.slice none 0 0] := by rw [hwf]; first | exact HK1.out | exact HK1.out.set 0 _
      have hbf : Below w.heap.size w wf := by rw [hwf]; first | exact HB1.out | exact HB1.out.setCell (p := ⟨w.heap.size + 1 + 1 + 1 + 1, 0, none⟩) (by show w.heap.size ≤ w.heap.size + 1 + 1 + 1 + 1; omega) _
      have q0 := HRF.cell 0 _ rfl
      clear hwf k2 k3
      exact bodyPost_ret (v := .tuple #[.agg #[.slice none 0 0], .int .i64 2]) (by simp [results, Try.results40, go_sem, q0]) rfl (by first | exact ⟨_, _, rfl, hbf, .inl ⟨rfl, rfl⟩⟩ | exact ⟨_, ⟨_, rfl⟩, hbf, .inl ⟨rfl, rfl⟩⟩ | exact ⟨_, hbf, .inl ⟨rfl, rfl⟩⟩)

    | false =>
      have hyes : AfR n a b c := Classical.byContradiction fun h => by have := HRR.out.2 h; simp at this
      obtain ⟨⟨g1, g2⟩, ⟨g3, g4⟩, ⟨g5, g6⟩, ⟨g7, g8⟩⟩ := hyes
      obtain ⟨n, rfl⟩ : ∃ m : Nat, n = (m : Int) := ⟨n.toNat, by omega⟩
      obtain ⟨a, rfl⟩ : ∃ m : Nat, a = (m : Int) := ⟨a.toNat, by omega⟩
      obtain ⟨b, rfl⟩ : ∃ m : Nat, b = (m : Int) := ⟨b.toNat, by omega⟩
      obtain ⟨c, rfl⟩ : ∃ m : Nat, c = (m : Int) := ⟨c.toNat, by omega⟩
      have h1 : 1 ≤ n := by omega
      have h12 : n ≤ 12 := by omega
      have HAR : Hid (AfR n a b c) := hide ⟨by omega, by omega, by omega, by omega⟩
      obtain ⟨F, hF⟩ : ∃ F, grid n (afH n a b c) = F := ⟨_, rfl⟩
      have HFL : Hid (F.length = n) := hide (by rw [← hF]; exact grid_length _ _)
      have HFB : Hid (∀ i, i < F.length → (F.getD i []).length ≤ 1048576) := hide (by rw [← hF]; exact grid_rows_le _ _ (by omega))
      have HFT : Hid (afT n a b c = F) := hide (by unfold afT; rw [← hF]; simp)

      have k0 := KN.out.cell 0 _ rfl
      go_wp2_with fail
      refine (tableOf_any 78 _ n (afH n a b c) _ (enters_of Try.func78 (by kernel_rfl) rfl) h1 h12 (afC_any n a b c _ _ _ _ _ h1 h12 (by omega) (by omega) (by omega) KN.out KA.out KB.out KC.out)).mono ?_
      rw [hF]
      clear hF
      rintro e w5 ⟨A3, c3, rfl, hb5, ho5⟩
      have HB5 := hide (HB1.out.trans (hb5.mono HB1.out.size))
      have HK5 := hide (HK1.out.later hb5)
      have HO5 := hide ho5
      have HLO : Hid (w.heap.size + 1 + 1 + 1 + 1 < wc.heap.size) := hide HK1.out.lt
      clear hb5 ho5 k0
      go_wp2_with fail
      refine calls_gen fun w6 hw6 => ?_
      obtain ⟨Q, hQ⟩ : ∃ Q, w5.heap.size = Q := ⟨_, rfl⟩
      have hq6 : Below w5.heap.size w5 w6 := by rw [hw6]; exact (Below.refl _ _).alloc (Nat.le_refl _) _
      have HB6 := hide (HB5.out.trans (hq6.mono HB5.out.size))
      have HK6 := hide (HK5.out.later hq6)
      have HO6 := hide (HO5.out.later hq6)
      have HQ6 : Hid (Blk w6 Q 27 [.slice A3 n c3]) := hide (by rw [hw6, ← hQ]; exact Blk.new _ _ _)
      have hQk := HK5.out.lt
      have hQl := HLO.out
      have hq5 : w5.heap.size ≤ w6.heap.size := hq6.size
      rw [hQ]
      clear hw6 hq6
      obtain ⟨r, hr⟩ : ∃ r : Bool, r = true ↔ Cyc F := bool_of _
      have HCR : Hid (CyRes F r) := hide hr
      clear hr
      refine (isCycIW _ _ _ F r _ HFL.out (by omega) HFB.out HO6.out.rd HCR.out).mono ?_
      rintro e w7 ⟨rfl, hb7⟩
      have HB7 := hide (HB6.out.trans (hb7.mono HB6.out.size))
      have HK7 := hide (HK6.out.later hb7)
      have HO7 := hide (HO6.out.later hb7)
      have HQ7 := hide (HQ6.out.later hb7)
      have hs7 := hb7.size
      clear hb7
      cases r with
      | false =>
        obtain ⟨rfl, rfl⟩ : zs = [] ∧ code = 5 := by
          rcases HRES.out with ⟨_, h, _⟩ | ⟨_, _, h⟩ | ⟨h, _⟩
          · rw [HFT.out] at h; exact absurd (HCR.out.2 h) (by simp)
          · exact h
          · exact absurd HAR.out h
        obtain rfl : k = 0 := by rw [← HKZ.out]; rfl
        have k2 := HK7.out.cell 0 _ rfl
        have k3 := HK7.out.frozen 0
        go_wp2_with fail
        refine bp_gen fun wf hwf => ?_
        have HRF : Blk wf (w.heap.size + 1 + 1 + 1 + 1) 27 [.slice none 0 0] := by rw [hwf]; first | exact HK7.out | exact HK7.out.set 0 _
        have hbf : Below w.heap.size w wf := by rw [hwf]; first | exact HB7.out | exact HB7.out.setCell (p := ⟨w.heap.size + 1 + 1 + 1 + 1, 0, none⟩) (by show w.heap.size ≤ w.heap.size + 1 + 1 + 1 + 1; omega) _
        have q0 := HRF.cell 0 _ rfl
        clear hwf k2 k3
        exact bodyPost_ret (v := .tuple #[.agg #[.slice none 0 0], .int .i64 5]) (by simp [results, Try.results40, go_sem, q0]) rfl (by first | exact ⟨_, _, rfl, hbf, .inl ⟨rfl, rfl⟩⟩ | exact ⟨_, ⟨_, rfl⟩, hbf, .inl ⟨rfl, rfl⟩⟩ | exact ⟨_, hbf, .inl ⟨rfl, rfl⟩⟩)

      | true =>
        obtain ⟨rfl, rfl⟩ : zs = F ∧ code = 0 := by
          rcases HRES.out with ⟨_, _, h1, h2⟩ | ⟨_, h, _⟩ | ⟨h, _⟩
          · rw [HFT.out] at h1; exact ⟨h1, h2⟩
          · rw [HFT.out] at h; exact absurd (HCR.out.1 rfl) h
          · exact absurd HAR.out h
        obtain rfl : k = n := by rw [← HKZ.out]; exact HFL.out
        have k0 := HQ7.out.cell 0 _ rfl
        have k2 := HK7.out.cell 0 _ rfl
        have k3 := HK7.out.frozen 0
        go_wp2_with fail
        refine bp_gen fun wf hwf => ?_
        obtain ⟨q0, hbf, hof⟩ := kend hwf HK7.out (by omega) HB7.out HO7.out (by omega) (by omega) (by omega)
        clear hwf k0 k2 k3
        exact bodyPost_ret (v := .tuple #[.agg #[.slice A3 k c3], .int .i64 0]) (by simp [results, Try.results40, go_sem, q0]) rfl (by first | exact ⟨_, _, rfl, hbf, hof⟩ | exact ⟨_, ⟨_, rfl⟩, hbf, hof⟩)
end Go.Proofs.Ythkhkehpmolfaaa
