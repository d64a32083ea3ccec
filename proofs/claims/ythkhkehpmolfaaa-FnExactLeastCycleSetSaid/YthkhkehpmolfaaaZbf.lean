import Derived.Test.YthkhkehpmolfaaaZav
import Derived.Test.YthkhkehpmolfaaaZao
import Derived.Test.YthkhkehpmolfaaaZbb
import Derived.Test.YthkhkehpmolfaaaZd
namespace Go.Proofs.Ythkhkehpmolfaaa
open Go Go.RowKit
set_option maxHeartbeats 2000000

theorem leastS_any (A : Option Addr) (n c : Nat) (rows zs : List (List Int)) (code : Int) (k : Nat) (w : World) (hn : rows.length = n) (hb : n ≤ 1048576) (hbs : ∀ i, i < rows.length → (rows.getD i []).length ≤ 1048576) (hx : Rd2 w A rows) (hr : LeastRes rows zs code) (hk : zs.length = k) :
    Calls Try.prog 83 #[.slice A n c] w (TPost 31 2 k zs code w) := by
  have HN := hide hn
  rcases hr with ⟨hp, h7, rfl, rfl⟩ | ⟨hp, h7, rfl, rfl⟩ | ⟨hp, rfl, rfl⟩
  · rw [hn] at h7 hk ⊢
    have hsh := fun q => bestS_shape rows n q hn (fun i hi => by rw [hp.rows i (by omega)]; exact hn)
    have HSH := hide hsh
    have hkn : k = n := by rw [← hk]; exact (hsh _).1
    subst hkn
    have hrl : ∀ i, i < rows.length → (rows.getD i []).length = k := fun i hi => by rw [hp.rows i hi]; exact hn
    have HRL := hide hrl
    have hin : ∀ i j, i < k → j < k → 0 ≤ (rows.getD i []).getD j 0 ∧ (rows.getD i []).getD j 0 < (k : Int) := fun i j hi hj => by have := (hp.2.2 i (by omega)).2 j (by omega); rw [hn] at this; exact this
    have HIN := hide hin
    have h1k : 1 ≤ k := by have := hp.1; omega
    have HP := hide hp
    have HPA := hide (perms_all k h1k h7)
    have HPI := hide (perms_isP k h1k h7)
    obtain ⟨N, hN⟩ : ∃ N, (permsS k).length = N := ⟨_, rfl⟩
    have HNN := hide hN
    have hNb : N ≤ 5040 := by have := HPA.out.most; omega
    have hNp : 0 < N := by have := HPA.out.pos; omega
    rw [hN]
    clear hn hk hrl hin hp hsh hN
    go_enter Try.func83, Try.ntmps83
    go_wp2_with fail
    refine (l01Table_any _ _ _ rows true _ HN.out (by omega) (fun i hi => by have := hbs i hi; omega) hx (by simp [HP.out])).mono ?_
    rintro e w1 ⟨rfl, hq1⟩
    have HQ1 := hide (hq1.below w.heap.size)
    clear hq1
    have h7z : ¬ (7 : Int) < (k : Int) := by omega
    go_wp2_with fail
    refine (l01Perms_any k _ h1k h7).mono ?_
    rintro e w2 ⟨A2, c2, rfl, hb2, hobj2⟩
    rw [HNN.out]
    have HB2 := hide (HQ1.out.trans (hb2.mono HQ1.out.size))
    have HA2 := hide hobj2.rd
    have S1 := HQ1.out.size
    have S2 := hb2.size
    clear hb2 hobj2
    go_wp2_with fail
    refine (own2_any _ k _ rows _ HN.out h1k hb HRL.out (hx.later HB2.out)).mono ?_
    rintro e w3 ⟨A3, c3, rfl, hb3, hobj3⟩
    have HB3 := hide (HB2.out.trans (hb3.mono HB2.out.size))
    have HA3 := hide (HA2.out.later hb3)
    have HO3 := hide (hobj3.mono (lo' := w.heap.size) (by omega) (Nat.le_refl _))
    clear hb3 hobj3
    go_wp2_with fail
    go_loopw [5, 6] (fun v i wr => ∃ (q : Nat) (A' : Option Addr) (c' : Nat), q ≤ N ∧ i = .int .i64 q ∧ v = .slice A' k c' ∧ Below w.heap.size w wr ∧ Obj2 31 2 w.heap.size wr.heap.size wr A' (bestS rows k q) ∧ Rd2 wr A2 (permsS k)) (fun _ i _ => N - (intOf i).toNat)
    case atStart => exact ⟨0, _, _, Nat.zero_le _, rfl, rfl, HB3.out, HO3.out, HA3.out⟩
    case round =>
      obtain ⟨q, A', c', hq, rfl, rfl, hbe, hob, hrd⟩ := hrel
      have HBE := hide hbe
      have HOB := hide hob
      have HRD := hide hrd
      clear hbe hob hrd
      by_cases hlt : q < N
      · have hltz : (q : Int) < N := by omega
        obtain ⟨b, o, rfl, hbw, hc⟩ := HRD.out (by have := HNN.out; omega)
        obtain ⟨A1, c1, hcell, hr1⟩ := hc q (by have := HNN.out; omega)
        have hl := HPA.out.len q (by have := HNN.out; omega)
        have hpi := HPI.out q (by have := HNN.out; omega)
        have hbst : bestS rows k (q + 1) = if lessT (renL rows ((permsS k).getD q [])) (bestS rows k q) then renL rows ((permsS k).getD q []) else bestS rows k q := rfl
        obtain ⟨p, hpe⟩ : ∃ p, (permsS k).getD q [] = p := ⟨_, rfl⟩
        rw [hpe] at hcell hr1 hl hpi hbst
        rw [hl] at hcell
        have HL := hide hl
        have HR1 := hide hr1
        have HPI2 := hide hpi.1
        have HBS := hide hbst
        clear hpe hc hr1 hl hpi hbst
        go_wp2_with fail
        refine (l01Rename_any _ k _ rows _ _ p _ HN.out HL.out h1k hb HRL.out HIN.out HPI2.out (hx.later HBE.out) HR1.out).mono ?_
        rintro e w4 ⟨A4, c4, rfl, hb4, hob4⟩
        have S4 := hb4.size
        have S0 := HBE.out.size
        have HB4 := hide (HBE.out.trans (hb4.mono HBE.out.size))
        have HO4 := hide (hob4.mono (lo' := w.heap.size) (by omega) (Nat.le_refl _))
        have HOB4 := hide ((HOB.out.later hb4).mono (lo' := w.heap.size) (Nat.le_refl _) S4)
        have HRD4 := hide (HRD.out.later hb4)
        clear hb4 hob4 hcell
        obtain ⟨bv, hbv⟩ : ∃ bv, lessT (renL rows p) (bestS rows k q) = bv := ⟨_, rfl⟩
        have HBV := hide hbv
        clear hbv
        go_wp2_with fail
        refine (less2_any _ _ k _ _ (renL rows p) (bestS rows k q) _ (by rw [renL_length]; exact HN.out) (HSH.out q).1 hb (fun i hi => by rw [renL_length] at hi; unfold renL; rw [grid_row_length _ _ _ hi]; exact HN.out) (fun i hi => (HSH.out q).2 i (by have := (HSH.out q).1; omega)) HO4.out.rd HOB4.out.rd).mono ?_
        rintro e w5 ⟨rfl, hq5⟩
        rw [HBV.out]
        have S5 := (hq5.below 0).size
        have HB5 := hide (HB4.out.trans (hq5.below _))
        have HO5 := hide ((HO4.out.later (hq5.below _)).mono (lo' := w.heap.size) (Nat.le_refl _) S5)
        have HOB5 := hide ((HOB4.out.later (hq5.below _)).mono (lo' := w.heap.size) (Nat.le_refl _) S5)
        have HRD5 := hide (HRD4.out.later (hq5.below _))
        clear hq5
        cases bv
        · go_wp2_with fail
          go_roundw
          case rel =>
            refine ⟨q + 1, A', c', by omega, by go_num, rfl, HB5.out, ?_, HRD5.out⟩
            rw [HBS.out, HBV.out]
            exact HOB5.out
          case measure => simp [intOf]; omega
        · go_wp2_with fail
          go_roundw
          case rel =>
            refine ⟨q + 1, A4, c4, by omega, by go_num, rfl, HB5.out, ?_, HRD5.out⟩
            rw [HBS.out, HBV.out]
            exact HO5.out
          case measure => simp [intOf]; omega
      · have hqN : q = N := by omega
        subst hqN
        go_wp2_with fail
        go_ret2
        exact ⟨_, _, rfl, HBE.out, HOB.out⟩
  · obtain rfl : k = 0 := by simpa using hk.symm
    have HP := hide hp
    have h7z : (7 : Int) < (n : Int) := by omega
    clear hn hk hp
    go_enter Try.func83, Try.ntmps83
    go_wp2_with fail
    refine (l01Table_any _ _ _ rows true _ HN.out (by omega) (fun i hi => by have := hbs i hi; omega) hx (by simp [HP.out])).mono ?_
    rintro e w1 ⟨rfl, hq1⟩
    have HQ1 := hide (hq1.below w.heap.size)
    clear hq1
    go_wp2_with fail
    go_ret2
    exact ⟨_, _, rfl, HQ1.out, .inl ⟨rfl, rfl⟩⟩
  · obtain rfl : k = 0 := by simpa using hk.symm
    have HP := hide hp
    clear hn hk hp
    go_enter Try.func83, Try.ntmps83
    go_wp2_with fail
    refine (l01Table_any _ _ _ rows false _ HN.out (by omega) (fun i hi => by have := hbs i hi; omega) hx (by simp [HP.out])).mono ?_
    rintro e w1 ⟨rfl, hq1⟩
    have HQ1 := hide (hq1.below w.heap.size)
    clear hq1
    go_wp2_with fail
    go_ret2
    exact ⟨_, _, rfl, HQ1.out, .inl ⟨rfl, rfl⟩⟩
end Go.Proofs.Ythkhkehpmolfaaa
