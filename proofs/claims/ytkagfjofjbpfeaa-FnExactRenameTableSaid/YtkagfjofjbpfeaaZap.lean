import Derived.Test.YtkagfjofjbpfeaaZf
import Derived.Test.YtkagfjofjbpfeaaZi
import Derived.Test.YtkagfjofjbpfeaaZam
import Derived.Test.YtkagfjofjbpfeaaZag
namespace Go.Proofs.Ytkagfjofjbpfeaa
open Go Go.RowKit
set_option maxHeartbeats 1000000

theorem renWI_any (A : Option Addr) (n c : Nat) (rows : List (List Int)) (D : Option Addr) (m d : Nat) (p : List Int) (zs : List (List Int)) (code : Int) (k : Nat) (w : World) (hn : rows.length = n) (hb : n ≤ 1048576) (hbs : ∀ i, i < rows.length → (rows.getD i []).length ≤ 1048576) (hx : Rd2 w A rows)
    (hm : p.length = m) (hb2 : m ≤ 1048576) (hy : Rd w D p) (hr : RenRes rows p zs code) (hk : zs.length = k) :
    Calls Try.prog 30 #[.slice A n c, .slice D m d] w (TPost 31 2 k zs code w) := by
  have HN := hide hn
  have HM := hide hm
  by_cases hp : Tbl rows
  · have HP := hide hp
    by_cases hq : Prm p
    · have HQ := hide hq
      by_cases hnm : n = m
      · rcases hr with ⟨_, _, _, rfl, rfl⟩ | ⟨h, _⟩
        · have hkn : k = n := by rw [← hk, renL_length]; exact hn
          subst hkn
          subst hnm
          have hrl : ∀ i, i < rows.length → (rows.getD i []).length = k := fun i hi => by rw [hp.rows i hi]; exact hn
          have HRL := hide hrl
          have hin : ∀ i j, i < k → j < k → 0 ≤ (rows.getD i []).getD j 0 ∧ (rows.getD i []).getD j 0 < (k : Int) := fun i j hi hj => by have := (hp.2.2 i (by omega)).2 j (by omega); rw [hn] at this; exact this
          have HIN := hide hin
          have hpin : ∀ x ∈ p, 0 ≤ x ∧ x < (k : Int) := by have := hq.2.2.1; rw [hm] at this; exact this
          have HPIN := hide hpin
          have h1k : 1 ≤ k := by have := hp.1; omega
          have hne : ((k : Int) != (k : Int)) = false := by simp
          clear hn hm hk hrl hin hpin hp hq
          go_enter Try.func30, Try.ntmps30
          go_wp2_with fail
          refine (isTable_any _ _ _ rows true _ HN.out (by omega) (fun i hi => by have := hbs i hi; omega) hx (by simp [HP.out])).mono ?_
          rintro e w1 ⟨rfl, hq1⟩
          have HQ1 := hide (hq1.below w.heap.size)
          clear hq1
          go_wp2_with fail
          refine (isPerm_any _ _ _ p true _ HM.out (by omega) (hy.later HQ1.out) (by simp [HQ.out])).mono ?_
          rintro e w2 ⟨rfl, hq2⟩
          have HQ2 : Hid (Below w.heap.size w w2) := hide (HQ1.out.trans (hq2.mono HQ1.out.size))
          clear hq2
          go_wp2_with fail
          refine (newTable_any k _ hb).mono ?_
          rintro e w3 ⟨rfl, hb3, htab, hs3⟩
          have HB3 := hide (HQ2.out.trans (hb3.mono HQ2.out.size))
          have HT3 := hide htab
          have HS3 := hide hs3
          clear hb3 htab hs3
          go_wp2_with fail
          refine (renameInto_any w2.heap.size w2.heap.size w3.heap.size _ k k _ _ _ rows _ _ p w w3 HN.out HM.out hb HRL.out HIN.out HPIN.out hx hy HB3.out HQ2.out.size (fun i hi => by have := HS3.out; omega) HT3.out).mono ?_
          rintro e w4 ⟨rfl, ht4, htab4, hs4⟩
          have HB4 := hide (ht4.below HB3.out HB3.out.size HQ2.out.size)
          have HT4 := hide htab4
          have HS4 := hide hs4
          clear ht4 htab4 hs4
          go_wp2_with fail
          go_ret2
          refine ⟨_, _, rfl, HB4.out, ?_⟩
          unfold renL
          rw [HN.out]
          have h3 := HS3.out
          have h4 := HS4.out
          have h2 := HQ2.out.size
          exact HT4.out.obj h2 (by omega) (fun i hi => by omega)
        · exact absurd ⟨hp, hq, by omega⟩ h
      · rcases hr with ⟨_, _, h, _⟩ | ⟨_, rfl, rfl⟩
        · exact absurd (by omega) hnm
        · obtain rfl : k = 0 := by simpa using hk.symm
          have hne : ((n : Int) != (m : Int)) = true := by simp; omega
          have hne2 : ((m : Int) != (n : Int)) = true := by simp; omega
          clear hnm hn hm hk hp hq
          go_enter Try.func30, Try.ntmps30
          go_wp2_with fail
          refine (isTable_any _ _ _ rows true _ HN.out (by omega) (fun i hi => by have := hbs i hi; omega) hx (by simp [HP.out])).mono ?_
          rintro e w1 ⟨rfl, hq1⟩
          have HQ1 := hide (hq1.below w.heap.size)
          clear hq1
          go_wp2_with fail
          refine (isPerm_any _ _ _ p true _ HM.out (by omega) (hy.later HQ1.out) (by simp [HQ.out])).mono ?_
          rintro e w2 ⟨rfl, hq2⟩
          have HQ2 : Hid (Below w.heap.size w w2) := hide (HQ1.out.trans (hq2.mono HQ1.out.size))
          clear hq2
          go_wp2_with fail
          go_ret2
          exact ⟨_, _, rfl, HQ2.out, .inl ⟨rfl, rfl⟩⟩
    · rcases hr with ⟨_, h, _⟩ | ⟨_, rfl, rfl⟩
      · exact absurd h hq
      · obtain rfl : k = 0 := by simpa using hk.symm
        have HQ := hide hq
        clear hn hm hk hp hq
        go_enter Try.func30, Try.ntmps30
        go_wp2_with fail
        refine (isTable_any _ _ _ rows true _ HN.out (by omega) (fun i hi => by have := hbs i hi; omega) hx (by simp [HP.out])).mono ?_
        rintro e w1 ⟨rfl, hq1⟩
        have HQ1 := hide (hq1.below w.heap.size)
        clear hq1
        go_wp2_with fail
        refine (isPerm_any _ _ _ p false _ HM.out (by omega) (hy.later HQ1.out) (by simp [HQ.out])).mono ?_
        rintro e w2 ⟨rfl, hq2⟩
        have HQ2 : Hid (Below w.heap.size w w2) := hide (HQ1.out.trans (hq2.mono HQ1.out.size))
        clear hq2
        go_wp2_with fail
        go_ret2
        exact ⟨_, _, rfl, HQ2.out, .inl ⟨rfl, rfl⟩⟩
  · rcases hr with ⟨h, _⟩ | ⟨_, rfl, rfl⟩
    · exact absurd h hp
    · obtain rfl : k = 0 := by simpa using hk.symm
      have HP := hide hp
      clear hn hm hk hp
      go_enter Try.func30, Try.ntmps30
      go_wp2_with fail
      refine (isTable_any _ _ _ rows false _ HN.out (by omega) (fun i hi => by have := hbs i hi; omega) hx (by simp [HP.out])).mono ?_
      rintro e w1 ⟨rfl, hq1⟩
      have HQ1 := hide (hq1.below w.heap.size)
      clear hq1
      go_wp2_with fail
      go_ret2
      exact ⟨_, _, rfl, HQ1.out, .inl ⟨rfl, rfl⟩⟩
end Go.Proofs.Ytkagfjofjbpfeaa
namespace Go.Proofs.Ytkagfjofjbpfeaa
open Go Go.RowKit
set_option maxHeartbeats 1000000

theorem renWS_any (A : Option Addr) (n c : Nat) (rows : List (List Int)) (D : Option Addr) (m d : Nat) (p : List Int) (zs : List (List Int)) (code : Int) (k : Nat) (w : World) (hn : rows.length = n) (hb : n ≤ 1048576) (hbs : ∀ i, i < rows.length → (rows.getD i []).length ≤ 1048576) (hx : Rd2 w A rows)
    (hm : p.length = m) (hb2 : m ≤ 1048576) (hy : Rd w D p) (hr : RenRes rows p zs code) (hk : zs.length = k) :
    Calls Try.prog 28 #[.slice A n c, .slice D m d] w (TPost 31 2 k zs code w) := by
  have HN := hide hn
  have HM := hide hm
  by_cases hp : Tbl rows
  · have HP := hide hp
    by_cases hq : Prm p
    · have HQ := hide hq
      by_cases hnm : n = m
      · rcases hr with ⟨_, _, _, rfl, rfl⟩ | ⟨h, _⟩
        · have hkn : k = n := by rw [← hk, renL_length]; exact hn
          subst hkn
          subst hnm
          have hrl : ∀ i, i < rows.length → (rows.getD i []).length = k := fun i hi => by rw [hp.rows i hi]; exact hn
          have HRL := hide hrl
          have hin : ∀ i j, i < k → j < k → 0 ≤ (rows.getD i []).getD j 0 ∧ (rows.getD i []).getD j 0 < (k : Int) := fun i j hi hj => by have := (hp.2.2 i (by omega)).2 j (by omega); rw [hn] at this; exact this
          have HIN := hide hin
          have hpin : ∀ x ∈ p, 0 ≤ x ∧ x < (k : Int) := by have := hq.2.2.1; rw [hm] at this; exact this
          have HPIN := hide hpin
          have h1k : 1 ≤ k := by have := hp.1; omega
          have hne : ((k : Int) != (k : Int)) = false := by simp
          clear hn hm hk hrl hin hpin hp hq
          go_enter Try.func28, Try.ntmps28
          go_wp2_with fail
          refine (l01Table_any _ _ _ rows true _ HN.out (by omega) (fun i hi => by have := hbs i hi; omega) hx (by simp [HP.out])).mono ?_
          rintro e w1 ⟨rfl, hq1⟩
          have HQ1 := hide (hq1.below w.heap.size)
          clear hq1
          go_wp2_with fail
          refine (prmS_below _ _ _ p true _ HM.out (by omega) (hy.later HQ1.out) (by simp [HQ.out])).mono ?_
          rintro e w2 ⟨rfl, hq2⟩
          have HQ2 : Hid (Below w.heap.size w w2) := hide (HQ1.out.trans (hq2.mono HQ1.out.size))
          clear hq2
          go_wp2_with fail
          refine (l01Rename_any _ _ _ rows _ _ p _ HN.out HM.out h1k hb HRL.out HIN.out HPIN.out (hx.later HQ2.out) (hy.later HQ2.out)).mono ?_
          rintro e w3 ⟨A3, c3, rfl, hb3, hobj⟩
          have HB3 := hide (HQ2.out.trans (hb3.mono HQ2.out.size))
          have HO3 := hide (hobj.mono HQ2.out.size (Nat.le_refl _))
          clear hb3 hobj
          go_wp2_with fail
          go_ret2
          exact ⟨_, _, rfl, HB3.out, HO3.out⟩
        · exact absurd ⟨hp, hq, by omega⟩ h
      · rcases hr with ⟨_, _, h, _⟩ | ⟨_, rfl, rfl⟩
        · exact absurd (by omega) hnm
        · obtain rfl : k = 0 := by simpa using hk.symm
          have hne : ((n : Int) != (m : Int)) = true := by simp; omega
          have hne2 : ((m : Int) != (n : Int)) = true := by simp; omega
          clear hnm hn hm hk hp hq
          go_enter Try.func28, Try.ntmps28
          go_wp2_with fail
          refine (l01Table_any _ _ _ rows true _ HN.out (by omega) (fun i hi => by have := hbs i hi; omega) hx (by simp [HP.out])).mono ?_
          rintro e w1 ⟨rfl, hq1⟩
          have HQ1 := hide (hq1.below w.heap.size)
          clear hq1
          go_wp2_with fail
          refine (prmS_below _ _ _ p true _ HM.out (by omega) (hy.later HQ1.out) (by simp [HQ.out])).mono ?_
          rintro e w2 ⟨rfl, hq2⟩
          have HQ2 : Hid (Below w.heap.size w w2) := hide (HQ1.out.trans (hq2.mono HQ1.out.size))
          clear hq2
          go_wp2_with fail
          go_ret2
          exact ⟨_, _, rfl, HQ2.out, .inl ⟨rfl, rfl⟩⟩
    · rcases hr with ⟨_, h, _⟩ | ⟨_, rfl, rfl⟩
      · exact absurd h hq
      · obtain rfl : k = 0 := by simpa using hk.symm
        have HQ := hide hq
        clear hn hm hk hp hq
        go_enter Try.func28, Try.ntmps28
        go_wp2_with fail
        refine (l01Table_any _ _ _ rows true _ HN.out (by omega) (fun i hi => by have := hbs i hi; omega) hx (by simp [HP.out])).mono ?_
        rintro e w1 ⟨rfl, hq1⟩
        have HQ1 := hide (hq1.below w.heap.size)
        clear hq1
        go_wp2_with fail
        refine (prmS_below _ _ _ p false _ HM.out (by omega) (hy.later HQ1.out) (by simp [HQ.out])).mono ?_
        rintro e w2 ⟨rfl, hq2⟩
        have HQ2 : Hid (Below w.heap.size w w2) := hide (HQ1.out.trans (hq2.mono HQ1.out.size))
        clear hq2
        go_wp2_with fail
        go_ret2
        exact ⟨_, _, rfl, HQ2.out, .inl ⟨rfl, rfl⟩⟩
  · rcases hr with ⟨h, _⟩ | ⟨_, rfl, rfl⟩
    · exact absurd h hp
    · obtain rfl : k = 0 := by simpa using hk.symm
      have HP := hide hp
      clear hn hm hk hp
      go_enter Try.func28, Try.ntmps28
      go_wp2_with fail
      refine (l01Table_any _ _ _ rows false _ HN.out (by omega) (fun i hi => by have := hbs i hi; omega) hx (by simp [HP.out])).mono ?_
      rintro e w1 ⟨rfl, hq1⟩
      have HQ1 := hide (hq1.below w.heap.size)
      clear hq1
      go_wp2_with fail
      go_ret2
      exact ⟨_, _, rfl, HQ1.out, .inl ⟨rfl, rfl⟩⟩
end Go.Proofs.Ytkagfjofjbpfeaa
