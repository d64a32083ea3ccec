import Derived.Test.YtljdfanebjhhmaaZy
import Derived.Test.YtljdfanebjhhmaaZm
import Derived.Test.YtljdfanebjhhmaaZi
import Derived.Test.YtljdfanebjhhmaaZf
import Derived.Test.YtljdfanebjhhmaaZc
namespace Go.Proofs.Ytljdfanebjhhmaa
open Go Go.RowKit
set_option maxHeartbeats 4000000

/-- A table in the blocks from lo to hi, these between B and P. -/
def Buf (ts t : TypeId) (B P n : Nat) (wr : World) (g lo hi : Nat) (f : Nat → Nat → Int) : Prop :=
  B ≤ lo ∧ hi ≤ P ∧ lo ≤ g ∧ g < hi ∧ ∃ G : Nat → Nat, (∀ i, i < n → lo ≤ G i ∧ G i < hi) ∧ TabF ts t wr g G n f
theorem Buf.far {ts t : TypeId} {B P n : Nat} {w w' : World} {g lo hi l h : Nat} {f : Nat → Nat → Int} (b : Buf ts t B P n w g lo hi f) (ht : Touch l h w w') (hs : hi ≤ l ∨ h ≤ lo) : Buf ts t B P n w' g lo hi f := by
  obtain ⟨h1, h2, h3, h4, G, hG, htab⟩ := b
  exact ⟨h1, h2, h3, h4, G, hG, htab.far ht (by omega) (fun i hi => by have := hG i hi; omega)⟩
theorem row_touch {t : TypeId} {w w' : World} {g lo hi : Nat} {xs : List Int} (h : Row t w g xs) (hs : g < lo ∨ hi ≤ g) (ht : Touch lo hi w w') : Row t w' g xs := (ht.block g h.lt hs).trans h

theorem leastI_any (A : Option Addr) (n c : Nat) (rows zs : List (List Int)) (code : Int) (k : Nat) (w : World) (hn : rows.length = n) (hb : n ≤ 1048576) (hbs : ∀ i, i < rows.length → (rows.getD i []).length ≤ 1048576) (hx : Rd2 w A rows) (hr : LeastRes rows zs code) (hk : zs.length = k) :
    Calls Try.prog 59 #[.slice A n c] w (TPost 33 2 k zs code w) := by
  have HN := hide hn
  rcases hr with ⟨hp, h7, rfl, rfl⟩ | ⟨hp, h7, rfl, rfl⟩ | ⟨hp, rfl, rfl⟩
  · rw [hn] at h7 hk ⊢
    have hsh := fun q => bestS_shape rows n q hn (fun i hi => by rw [hp.rows i (by omega)]; exact hn)
    have HSH := hide hsh
    have hkn : k = n := by rw [← hk]; exact (hsh _).1
    subst hkn
    have hrl : ∀ i, i < rows.length → (rows.getD i []).length = k := fun i hi => by rw [hp.rows i hi]; exact hn
    have HRL := hide hrl
    have hin : ∀ i j, i < k → j < k → 0 ≤ (rows.getD i []).getD j 0 ∧ (rows.getD i []).getD j 0 < (k : Int) := fun i j hi hj => by have := (hp.2.2 i (by omega)).2 j (by omega); rw [hn] at this; exact this
    have HIN := hide hin
    have h1k : 1 ≤ k := by have := hp.1; omega
    have HP := hide hp
    have HPA := hide (perms_all k h1k h7)
    have HPI := hide (perms_isP k h1k h7)
    have HONE := hide (bestS_one rows k hn h1k h7 (fun i hi => hrl i (by omega)) hin)
    obtain ⟨N, hN⟩ : ∃ N, (permsS k).length = N := ⟨_, rfl⟩
    have HNN := hide hN
    have hNb : N ≤ 5040 := by have := HPA.out.most; omega
    have hNp : 0 < N := by have := HPA.out.pos; omega
    rw [hN]
    clear hn hk hrl hin hp hsh hN
    go_enter Try.func59, Try.ntmps59
    go_wp2_with fail
    refine (isTable_any _ _ _ rows true _ HN.out (by omega) (fun i hi => by have := hbs i hi; omega) hx (by simp [HP.out])).mono ?_
    rintro e w1 ⟨rfl, hq1⟩
    have HQ1 := hide (hq1.below w.heap.size)
    clear hq1
    have h7z : ¬ (7 : Int) < (k : Int) := by omega
    go_wp2_with fail
    refine (newTable_any k _ hb).mono ?_
    rintro e w2 ⟨rfl, hb2, ht2, hs2⟩
    have HB2 := hide (HQ1.out.trans (hb2.mono HQ1.out.size))
    have HT2 := hide ht2
    have S1 := HQ1.out.size
    have S2 := hide hs2
    clear hb2 ht2 hs2
    go_wp2_with fail
    refine (newTable_any k _ hb).mono ?_
    rintro e w3 ⟨rfl, hb3, ht3, hs3⟩
    have HB3 := hide (HB2.out.trans (hb3.mono HB2.out.size))
    have HT23 := hide (HT2.out.later hb3)
    have HT3 := hide ht3
    have S3 := hide hs3
    clear hb3 ht3 hs3
    go_wp2_with fail
    refine (identityOf_any k _ (by omega)).mono ?_
    rintro e w4 ⟨rfl, hb4, hrow4, hs4⟩
    have HB4 := hide (HB3.out.trans (hb4.mono HB3.out.size))
    have HT24 := hide (HT23.out.later hb4)
    have HT34 := hide (HT3.out.later hb4)
    have HR4 := hide hrow4
    have S4 := hide hs4
    clear hb4 hrow4 hs4
    obtain ⟨P, hP⟩ : ∃ P, w3.heap.size = P := ⟨_, rfl⟩
    have HPP := hide hP
    rw [hP] at HR4 ⊢
    clear hP
    have hu0 : (permsS k).getD 0 [] = unitL k := HPA.out.first
    have HU0 := hide hu0
    have hup : ∀ x ∈ unitL k, 0 ≤ x ∧ x < (k : Int) := by rw [← hu0]; exact (HPI.out 0 (by have := HNN.out; omega)).1
    have HUP := hide hup
    clear hu0 hup
    go_wp2_with fail
    refine (renameInto_gen w1.heap.size w1.heap.size w2.heap.size _ k k _ _ _ rows _ _ (unitL k) w w4 HN.out (unitL_length k) hb HRL.out HIN.out HUP.out hx (fun w' ht' => (row_touch HR4.out (.inr (by have := S3.out; have := HPP.out; omega)) ht').rd) HB4.out S1 (fun i hi => by have := S2.out; omega) HT24.out).mono ?_
    rintro e w5 ⟨rfl, ht5, htab5, hs5⟩
    have hpos : 0 < (permsS k).length := by have := HNN.out; omega
    have hbuf : Buf 33 2 w.heap.size P k w5 w1.heap.size w1.heap.size w2.heap.size (renTo rows (unitL k) k k fun _ _ => 0) := ⟨S1, by have := S3.out; have := HPP.out; omega, Nat.le_refl _, by have := S2.out; omega, _, fun i hi => by have := S2.out; omega, htab5⟩
    have hgrid : grid k (renTo rows (unitL k) k k fun _ _ => 0) = bestS rows k 1 := by rw [HONE.out, ← HU0.out]; exact renL_cover rows k 0 _ HN.out h1k h7 hpos
    have hbuf2 : Buf 33 2 w.heap.size P k w5 w2.heap.size w2.heap.size P (fun _ _ => 0) := ⟨by have := S2.out; omega, Nat.le_refl _, Nat.le_refl _, by have := S3.out; have := HPP.out; omega, _, fun i hi => by have := S3.out; have := HPP.out; omega, HT34.out.far ht5 (.inr (Nat.le_refl _)) (fun i hi => .inr (by omega))⟩
    have hrow5 : Row 2 w5 P ((permsS k).getD 0 []) := by rw [HU0.out]; exact row_touch HR4.out (.inr (by have := S3.out; have := HPP.out; omega)) ht5
    have HBF := hide hbuf
    have HGR := hide hgrid
    have HBF2 := hide hbuf2
    have HR5 := hide hrow5
    have HB5 := hide (ht5.below HB4.out HB4.out.size S1)
    have hsP : P < w5.heap.size := by have := S4.out; have := HPP.out; omega
    have hwP : w.heap.size ≤ P := by have := S3.out; have := HPP.out; have := S2.out; omega
    have hdis : w2.heap.size ≤ w2.heap.size ∨ P ≤ w1.heap.size := .inl (Nat.le_refl _)
    clear ht5 htab5 hs5 hpos hbuf hgrid hbuf2 hrow5 HT2 HT23 HT3 HT24 HT34 HR4
    go_wp2_with fail
    go_loopg [4, 5] (N - 1) (fun r v v' wr => ∃ (q g lo hi g' lo' hi' : Nat) (F F' : Nat → Nat → Int), r + q + 1 = N ∧ v = .slice (some ⟨g, 0, none⟩) k k ∧ v' = .slice (some ⟨g', 0, none⟩) k k ∧ Below w.heap.size w wr ∧ Buf 33 2 w.heap.size P k wr g lo hi F ∧ grid k F = bestS rows k (q + 1) ∧ Buf 33 2 w.heap.size P k wr g' lo' hi' F' ∧ (hi ≤ lo' ∨ hi' ≤ lo) ∧ Row 2 wr P ((permsS k).getD q []) ∧ P < wr.heap.size)
    case atStart => exact ⟨0, _, _, _, _, _, _, _, _, by omega, rfl, rfl, HB5.out, HBF.out, HGR.out, HBF2.out, hdis, HR5.out, hsP⟩
    case round =>
      obtain ⟨q, g, lo, hi, g', lo', hi', F, F', hq, rfl, rfl, hbe, hbf, hgr, hbf2, hds, hrow, hsz⟩ := hrel
      have HQ := hide hq
      have HBE := hide hbe
      have HBF := hide hbf
      have HGR := hide hgr
      have HBF2 := hide hbf2
      have HDS := hide hds
      have HRR := hide hrow
      have hqk : q < N := by omega
      clear hq hbe hbf hgr hbf2 hds hrow
      have hlq : ((permsS k).getD q []).length = k := HPA.out.len q (by have := HNN.out; omega)
      have HLQ := hide hlq
      have hnx := HPA.out.next q (by have := HNN.out; omega)
      rw [HNN.out] at hnx
      have HNX := hide hnx
      clear hlq hnx
      go_wp2_with fail
      refine (advance_any P k k ((permsS k).getD q []) _ HLQ.out h1k (Nat.le_refl _) hb HRR.out).mono ?_
      rintro e w6 hpost
      rcases hpost with ⟨hnn, rfl, ho, hrr⟩ | ⟨p', hnn, rfl, ho, hrr⟩
      · have hq1 : ¬ q + 1 < N := fun h => by
          have := HNX.out
          rw [if_pos h, hnn] at this
          cases this
        have hto : Touch P (P + 1) wr w6 := Touch.of_only ho (fun a ha => by cases ha; exact ⟨Nat.le_refl _, Nat.lt_succ_self _⟩)
        have HTO := hide hto
        clear hnn ho hrr hto
        go_wp2_with fail
        go_ret2
        have hqk' : q + 1 = N := by omega
        have h := HBF.out.far HTO.out (.inl HBF.out.2.1)
        obtain ⟨l1, l2, l3, l4, G, hG, htab⟩ := h
        have hob := (htab.obj l3 l4 hG).mono (lo' := w.heap.size) (hi' := w6.heap.size) l1 (by have := HTO.out.size; omega)
        rw [HGR.out, hqk'] at hob
        exact ⟨_, _, rfl, HTO.out.below HBE.out HBE.out.size hwP, hob⟩
      · have hq1 : q + 1 < N := by
          rcases Nat.lt_or_ge (q + 1) N with h | h
          · exact h
          · have := HNX.out
            rw [if_neg (by omega), hnn] at this
            cases this
        have hp' : (permsS k).getD (q + 1) [] = p' := by
          have := HNX.out
          rw [if_pos hq1, hnn] at this
          injection this with h
          exact h.symm
        have hto : Touch P (P + 1) wr w6 := Touch.of_only ho (fun a ha => by cases ha; exact ⟨Nat.le_refl _, Nat.lt_succ_self _⟩)
        have HB6 := hide (hto.below HBE.out HBE.out.size hwP)
        have HBF6 := hide (HBF.out.far hto (.inl HBF.out.2.1))
        have HBF26 := hide (HBF2.out.far hto (.inl HBF2.out.2.1))
        have S6 := hto.size
        have hlp : p'.length = k := by rw [← hp']; exact HPA.out.len (q + 1) (by have := HNN.out; omega)
        have hpin : ∀ x ∈ p', 0 ≤ x ∧ x < (k : Int) := by rw [← hp']; exact (HPI.out (q + 1) (by have := HNN.out; omega)).1
        have hcov : ∀ f, grid k (renTo rows p' k k f) = renL rows p' := fun f => by rw [← hp']; exact renL_cover rows k (q + 1) f HN.out h1k h7 (by have := HNN.out; omega)
        have hbst : bestS rows k (q + 1 + 1) = if lessT (renL rows p') (bestS rows k (q + 1)) then renL rows p' else bestS rows k (q + 1) := by rw [← hp']; rfl
        have HLP := hide hlp
        have HPIN := hide hpin
        have HCOV := hide hcov
        have HBST := hide hbst
        have HPE := hide hp'
        have HR6 := hide hrr
        clear hnn ho hrr hto hlp hpin hcov hbst hp'
        obtain ⟨m1, m2, m3, m4, G', hG', htab'⟩ := HBF26.out
        have HG' := hide hG'
        have HTAB := hide htab'
        clear hG' htab' HBF26 HBF2 HBF
        go_wp2_with fail
        refine (renameInto_gen g' lo' hi' G' k k F' _ _ rows _ _ p' w w6 HN.out HLP.out hb HRL.out HIN.out HPIN.out hx (fun w' ht' => (row_touch HR6.out (.inr m2) ht').rd) HB6.out m1 HG'.out HTAB.out).mono ?_
        rintro e w7 ⟨rfl, ht7, htab7, hs7⟩
        have HB7 := hide (ht7.below HB6.out HB6.out.size m1)
        have HBF7 := hide (HBF6.out.far ht7 HDS.out)
        have HT7 := hide htab7
        have HR7 := hide (row_touch HR6.out (.inr m2) ht7)
        have S7 := ht7.size
        clear ht7 htab7 HBF6
        obtain ⟨v, hv⟩ : ∃ v, cmpT (renL rows p') (bestS rows k (q + 1)) = v := ⟨_, rfl⟩
        have HV := hide hv
        have HRD1 : Hid (Rd2 w7 (some ⟨g', 0, none⟩) (renL rows p')) := hide (by have h := HT7.out.rd; rw [HCOV.out] at h; exact h)
        have HRD2 : Hid (Rd2 w7 (some ⟨g, 0, none⟩) (bestS rows k (q + 1))) := hide (by obtain ⟨_, _, _, _, G, _, ht⟩ := HBF7.out; have h := ht.rd; rw [HGR.out] at h; exact h)
        clear hv
        go_wp2_with fail
        refine (compareTables_any _ _ k _ _ (renL rows p') (bestS rows k (q + 1)) v _ (by rw [renL_length]; exact HN.out) (HSH.out (q + 1)).1 hb (fun i hi => by rw [renL_length] at hi; unfold renL; rw [grid_row_length _ _ _ hi]; exact HN.out) (fun i hi => (HSH.out (q + 1)).2 i (by have := (HSH.out (q + 1)).1; omega)) HRD1.out HRD2.out HV.out).mono ?_
        rintro e w8 ⟨rfl, hq8⟩
        have HB8 := hide (HB7.out.trans (hq8.below _))
        have HBF8 := hide (HBF7.out.far (Touch.quiet (lo := P) (hi := P) hq8) (.inl HBF7.out.2.1))
        have hbuf8 : Buf 33 2 w.heap.size P k w8 g' lo' hi' (renTo rows p' k k F') := ⟨m1, m2, m3, m4, G', HG'.out, HT7.out.far (Touch.quiet (lo := P) (hi := P) hq8) (.inl (by omega)) (fun i hi => .inl (by have := HG'.out i hi; omega))⟩
        have HBU8 := hide hbuf8
        have HR8 := hide (HR7.out.later (hq8.below w7.heap.size) HR7.out.lt)
        have S8 := (hq8.below 0).size
        clear hq8 hbuf8 HRD1 HRD2
        have hneg := cmpT_neg (renL rows p') (bestS rows k (q + 1))
        rw [HV.out] at hneg
        have HNEG := hide hneg
        clear hneg
        have hsz8 : P < w8.heap.size := by omega
        by_cases hv0 : v < 0
        · have hres : bestS rows k (q + 1 + 1) = renL rows p' := by rw [HBST.out, if_pos (HNEG.out.1 hv0)]
          have HRES := hide hres
          clear hres
          go_wp2_with fail
          go_roundg (N - 1 - (q + 1))
          case measure => have := HQ.out; omega
          case rel => exact ⟨q + 1, g', lo', hi', g, lo, hi, _, _, by omega, rfl, rfl, HB8.out, HBU8.out, by rw [HCOV.out, HRES.out], HBF8.out, by have := HDS.out; omega, by rw [HPE.out]; exact HR8.out, hsz8⟩
        · have hres : bestS rows k (q + 1 + 1) = bestS rows k (q + 1) := by rw [HBST.out, if_neg (fun h => hv0 (HNEG.out.2 h))]
          have HRES := hide hres
          clear hres
          go_wp2_with fail
          go_roundg (N - 1 - (q + 1))
          case measure => have := HQ.out; omega
          case rel => exact ⟨q + 1, g, lo, hi, g', lo', hi', _, _, by omega, rfl, rfl, HB8.out, HBF8.out, by rw [HRES.out]; exact HGR.out, HBU8.out, HDS.out, by rw [HPE.out]; exact HR8.out, hsz8⟩
  · obtain rfl : k = 0 := by simpa using hk.symm
    have HP := hide hp
    have h7z : (7 : Int) < (n : Int) := by omega
    clear hn hk hp
    go_enter Try.func59, Try.ntmps59
    go_wp2_with fail
    refine (isTable_any _ _ _ rows true _ HN.out (by omega) (fun i hi => by have := hbs i hi; omega) hx (by simp [HP.out])).mono ?_
    rintro e w1 ⟨rfl, hq1⟩
    have HQ1 := hide (hq1.below w.heap.size)
    clear hq1
    go_wp2_with fail
    go_ret2
    exact ⟨_, _, rfl, HQ1.out, .inl ⟨rfl, rfl⟩⟩
  · obtain rfl : k = 0 := by simpa using hk.symm
    have HP := hide hp
    clear hn hk hp
    go_enter Try.func59, Try.ntmps59
    go_wp2_with fail
    refine (isTable_any _ _ _ rows false _ HN.out (by omega) (fun i hi => by have := hbs i hi; omega) hx (by simp [HP.out])).mono ?_
    rintro e w1 ⟨rfl, hq1⟩
    have HQ1 := hide (hq1.below w.heap.size)
    clear hq1
    go_wp2_with fail
    go_ret2
    exact ⟨_, _, rfl, HQ1.out, .inl ⟨rfl, rfl⟩⟩
end Go.Proofs.Ytljdfanebjhhmaa
