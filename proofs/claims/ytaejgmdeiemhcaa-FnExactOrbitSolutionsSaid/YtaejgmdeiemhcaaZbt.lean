import Derived.Test.YtaejgmdeiemhcaaZbs
import Derived.Test.YtaejgmdeiemhcaaZj
import Derived.Test.YtaejgmdeiemhcaaZbp
import Derived.Test.YtaejgmdeiemhcaaZbr
import Derived.Test.YtaejgmdeiemhcaaZh
import Derived.Test.YtaejgmdeiemhcaaZac
import Derived.Deep.Cut
import Derived.Deep.RegionHeld3
namespace Go.Proofs.Ytaejgmdeiemhcaa
open Go Go.RowKit
/-- A table on a closed set, its elements having their places as new numbers. -/
def sb1 (f : List (List Int)) (set : List Int) : Nat → Nat → Int := fun i k => ixOf set ((ap f (set.getD i 0).toNat (set.getD k 0).toNat : Nat) : Int)
def SubRes (f s : List (List Int)) (set : List Int) (zf zg : List (List Int)) (code : Int) : Prop :=
  (PMap f s ∧ IncSet f.length set ∧ ClF f s set ∧ zf = grid set.length (sb1 f set) ∧ zg = grid set.length (sb1 s set) ∧ code = 0) ∨ (PMap f s ∧ IncSet f.length set ∧ ¬ ClF f s set ∧ zf = [] ∧ zg = [] ∧ code = 5) ∨ (PMap f s ∧ ¬ IncSet f.length set ∧ zf = [] ∧ zg = [] ∧ code = 2) ∨ (¬ PMap f s ∧ zf = [] ∧ zg = [] ∧ code = 1)
theorem SubRes.ex (f s : List (List Int)) (set : List Int) : ∃ zf zg code, SubRes f s set zf zg code ∧ ZSz 1048576 zf zf.length zg zg.length := by
  by_cases h : PMap f s
  · by_cases h2 : IncSet f.length set
    · by_cases h3 : ClF f s set
      · exact ⟨_, _, _, .inl ⟨h, h2, h3, rfl, rfl, rfl⟩, grid_sz (by have := h2.le; have := h.1.2.1; omega) _ _⟩
      · exact ⟨_, _, _, .inr (.inl ⟨h, h2, h3, rfl, rfl, rfl⟩), nil_sz⟩
    · exact ⟨_, _, _, .inr (.inr (.inl ⟨h, h2, rfl, rfl, rfl⟩)), nil_sz⟩
  · exact ⟨_, _, _, .inr (.inr (.inr ⟨h, rfl, rfl, rfl⟩)), nil_sz⟩
theorem ixOf_in {xs : List Int} {v : Int} (h : v ∈ xs) : 0 ≤ ixOf xs v ∧ ixOf xs v < (xs.length : Int) := by
  unfold ixOf
  rw [if_pos h]
  have := List.idxOf_lt_length_of_mem h
  omega
end Go.Proofs.Ytaejgmdeiemhcaa
namespace Go.Proofs.Ytaejgmdeiemhcaa
open Go Go.RowKit
set_option maxHeartbeats 1000000
theorem QSz.z {zs : List SolV} (h : QSz zs) {i : Nat} (hi : i < zs.length) : ZSz 1048576 (qz zs i).1 (qz zs i).1.length (qz zs i).2 (qz zs i).2.length := by
  have h1 := h.fl i hi
  have h2 := h.sl i hi
  exact ⟨rfl, by omega, fun j hj => by have := h.fr i hi j hj; omega, rfl, by omega, fun j hj => by have := h.sr i hi j hj; omega⟩
set_option maxRecDepth 100000 in
theorem eqQ_any (A : Option Addr) (n c : Nat) (B : Option Addr) (d : Nat) (zs : List SolV) (w : World) (hn : zs.length = n) (hs : QSz zs) (ha : RdQ w A zs) (hb : RdQ w B zs) :
    Calls Try.prog 49 #[.slice A n c, .slice B n d] w fun e w' => e = .returned (.bool true) ∧ Below w.heap.size w w' := by
  have h12 : n ≤ 12 := by rw [← hn]; exact hs.len
  have HN := hide hn
  have HQ := hide hs
  have HA := hide ha
  have HBB := hide hb
  clear hn hs ha hb
  go_enter Try.func49, Try.ntmps49
  go_wp2_with fail
  go_loopw [5] (fun v wr => ∃ i : Nat, i ≤ n ∧ v = .int .i64 (i : Int) ∧ Below w.heap.size w wr) (fun v _ => n - (intOf v).toNat)
  case atStart => exact ⟨0, Nat.zero_le _, rfl, Below.refl _ _⟩
  case round =>
    obtain ⟨i, hi, rfl, hbe⟩ := hrel
    have HB := hide hbe
    clear hbe
    by_cases hlt : i < n
    · have hltz : (i : Int) < n := by omega
      have hil : i < zs.length := by rw [HN.out]; exact hlt
      obtain ⟨b1, o1, hA, hb1, hc1⟩ := HA.out (by omega)
      obtain ⟨b2, o2, hB, hb2, hc2⟩ := HBB.out (by omega)
      subst hA hB
      obtain ⟨R1, c1, S1, d1, e0, e1, r1, s1⟩ := hc1 i hil
      obtain ⟨R2, c2, S2, d2, e2, e3, r2, s2⟩ := hc2 i hil
      have hsz := HQ.out.z hil
      obtain ⟨fi, hfi⟩ : ∃ f, (qz zs i).1 = f := ⟨_, rfl⟩
      obtain ⟨si, hsi⟩ : ∃ s, (qz zs i).2 = s := ⟨_, rfl⟩
      rw [hfi, hsi] at hsz
      rw [hfi] at e0 e2 r1 r2
      rw [hsi] at e1 e3 s1 s2
      obtain ⟨F, hF⟩ : ∃ F, fi.length = F := ⟨_, rfl⟩
      obtain ⟨G, hG⟩ : ∃ G, si.length = G := ⟨_, rfl⟩
      rw [hF] at e0 e2 hsz
      rw [hG] at e1 e3 hsz
      have HSZ := hide hsz
      have H1 := hide (And.intro r1 s1)
      have H2 := hide (And.intro r2 s2)
      have E0 := hide e0
      have E1 := hide e1
      have E2 := hide e2
      have E3 := hide e3
      have f0 : wr.cell? ⟨b1, o1 + i * 2, none⟩ = some (.slice R1 F c1) := (HB.out.cell (p := ⟨b1, o1 + i * 2, none⟩) hb1).trans e0
      have f1 : wr.cell? ⟨b1, o1 + i * 2 + 1, none⟩ = some (.slice S1 G d1) := (HB.out.cell (p := ⟨b1, o1 + i * 2 + 1, none⟩) hb1).trans e1
      have f2 : wr.cell? ⟨b2, o2 + i * 2, none⟩ = some (.slice R2 F c2) := (HB.out.cell (p := ⟨b2, o2 + i * 2, none⟩) hb2).trans e2
      have f3 : wr.cell? ⟨b2, o2 + i * 2 + 1, none⟩ = some (.slice S2 G d2) := (HB.out.cell (p := ⟨b2, o2 + i * 2 + 1, none⟩) hb2).trans e3
      clear hc1 hc2 e0 e1 e2 e3 r1 s1 r2 s2 hsz hfi hsi hF hG
      go_wp2_with fail
      go_region_held3 (fun w' => w'.cell? ⟨b1, o1 + i * 2, none⟩ = some (.slice R1 F c1) ∧ w'.cell? ⟨b1, o1 + i * 2 + 1, none⟩ = some (.slice S1 G d1) ∧ w'.cell? ⟨b2, o2 + i * 2, none⟩ = some (.slice R2 F c2) ∧ w'.cell? ⟨b2, o2 + i * 2 + 1, none⟩ = some (.slice S2 G d2)) (first | exact ⟨f0, f1, f2, f3⟩ | go_keep) (first | (go_at_call 20; go_must (refine calls_gen fun wc hwc => ?_; (first | have hbx := drew_below hwc | have hbx := eq_below hwc); have HBc := hide (HB.out.trans (hbx.mono HB.out.size)); clear hwc hbx; refine (eqZ_any _ F _ fi _ G _ si _ F _ fi _ G _ si true _ ⟨HSZ.out, H1.out.1.later HBc.out, H1.out.2.later HBc.out⟩ ⟨HSZ.out, H2.out.1.later HBc.out, H2.out.2.later HBc.out⟩ (by simp)).mono ?_; rintro e wd ⟨rfl, hbd⟩; have HBd := hide (HBc.out.trans (hbd.mono HBc.out.size)); clear hbd; have f0 := (HBd.out.cell (p := ⟨b1, o1 + i * 2, none⟩) hb1).trans E0.out; have f1 := (HBd.out.cell (p := ⟨b1, o1 + i * 2 + 1, none⟩) hb1).trans E1.out; have f2 := (HBd.out.cell (p := ⟨b2, o2 + i * 2, none⟩) hb2).trans E2.out; have f3 := (HBd.out.cell (p := ⟨b2, o2 + i * 2 + 1, none⟩) hb2).trans E3.out)))
      all_goals (
        clear f0 f1 f2 f3
        go_wp2_with fail
        go_roundw
        case rel => exact ⟨i + 1, by omega, by go_num, HBd.out⟩
        case measure => simp [intOf]; omega)
    · have hin : i = n := by omega
      subst hin
      go_wp2_with fail
      go_ret
      exact ⟨rfl, HB.out⟩
set_option maxRecDepth 100000 in
theorem markQ_any (ts t tq : TypeId) (hne : ts ≠ t) (g : Nat) (R S : Nat → Option Addr) (C D p : Nat → Nat) (n c : Nat) (k : Int) (zs : List SolV) (w : World) (hn : zs.length = n) (hs : QSz zs) (hk : 0 ≤ k) (hk2 : k ≤ 1152921504606846976) (hq : QW ts t tq w g R S C D p zs) (hp : p n ≤ w.heap.size) :
    Calls Try.prog 50 #[.slice (some ⟨g, 0, none⟩) n c, .int .i64 k] w fun e w' => e = .returned (.int .i64 (k + (tQ zs n : Int))) ∧ Touch (p 0) (p n) w w' ∧ QW ts t tq w' g R S C D p (mTo k zs n) := by
  have h12 : n ≤ 12 := by rw [← hn]; exact hs.len
  have HN := hide hn
  have HQ := hide hs
  have HW := hide hq
  clear hn hs hq
  go_enter Try.func50, Try.ntmps50
  go_wp2_with fail
  go_loopw [1, 5] (fun u v wr => ∃ i : Nat, i ≤ n ∧ u = .int .i64 (k + (tQ zs i : Int)) ∧ v = .int .i64 (i : Int) ∧ Touch (p 0) (p n) w wr ∧ QW ts t tq wr g R S C D p (mTo k zs i)) (fun _ v _ => n - (intOf v).toNat)
  case atStart => exact ⟨0, Nat.zero_le _, by simp [tQ], rfl, Touch.refl _ _ _, HW.out⟩
  case round =>
    obtain ⟨i, hi, rfl, rfl, ht, hq⟩ := hrel
    have HT := hide ht
    have HI := hide hq
    clear ht hq
    have hml := mTo_length k zs i
    rw [HN.out] at hml
    have htq := tQ_le HQ.out i (by rw [HN.out]; exact hi)
    obtain ⟨kk, hkk⟩ : ∃ kk, k + (tQ zs i : Int) = kk := ⟨_, rfl⟩
    rw [hkk]
    have hk0 : 0 ≤ kk := by omega
    have hkB : kk ≤ 1152921504606846976 + 3456 := by omega
    have HKK := hide hkk
    have HML := hide hml
    clear hkk hml
    by_cases hlt : i < n
    · have hltz : (i : Int) < n := by omega
      have him : i < (mTo k zs i).length := by rw [HML.out]; exact hlt
      have hil : i < zs.length := by rw [HN.out]; exact hlt
      have hat : qz (mTo k zs i) i = qz zs i := by rw [mTo_at k zs i i (by omega), if_neg (by omega)]
      obtain ⟨f0, f1⟩ := HI.out.cells him
      have hob := HI.out.obj i him
      rw [hat] at f0 f1 hob
      have hsz := HQ.out.z hil
      have t1 := tot_12 (HQ.out.fl i hil) (HQ.out.fr i hil)
      have t2 := tot_12 (HQ.out.sl i hil) (HQ.out.sr i hil)
      have hset := mTo_at k zs i i (by omega)
      obtain ⟨fi, hfi⟩ : ∃ f, (qz zs i).1 = f := ⟨_, rfl⟩
      obtain ⟨si, hsi⟩ : ∃ s, (qz zs i).2 = s := ⟨_, rfl⟩
      rw [hfi, hsi] at hsz hob
      rw [hfi] at f0 t1
      rw [hsi] at f1 t2
      obtain ⟨F, hF⟩ : ∃ F, tot fi = F := ⟨_, rfl⟩
      obtain ⟨G, hG⟩ : ∃ G, tot si = G := ⟨_, rfl⟩
      rw [hF] at t1
      rw [hG] at t2
      obtain ⟨mid, m1, m2, hob1, hob2⟩ := hob
      have pl0 := HI.out.le (Nat.zero_le i) (by omega)
      have pln := HI.out.le (show i + 1 ≤ (mTo k zs i).length by omega) (Nat.le_refl _)
      rw [HML.out] at pln
      have hlow := HI.out.low
      have hgl := HI.out.lt
      have hszw := HT.out.size
      have HSZ := hide hsz
      have HO1 := hide hob1
      have HO2 := hide hob2
      have E1 := hide f1
      have HFI := hide hfi
      have HSI := hide hsi
      have HF := hide hF
      have HG := hide hG
      have HAT := hide hat
      clear hsz hob1 hob2 hset hfi hsi hF hG f1 hat him hil
      go_wp2_with fail
      refine (markT ts t hne (p i) mid _ _ _ kk fi _ HSZ.out.fl HSZ.out.nb HSZ.out.nr (by rw [HF.out]; omega) hk0 (by omega) HO1.out).mono ?_
      rintro e w5 ⟨rfl, ht5, ho5⟩
      have HT5 := hide ht5
      have HO5 := hide ho5
      have HP5 := hide (HO2.out.far ht5 (.inr (Nat.le_refl _)))
      have f1 : w5.cell? ⟨g, i * 2 + 1, none⟩ = some (.slice (S i) si.length (D i)) := (World.cell?_of_block (a := ⟨g, i * 2 + 1, none⟩) (ht5.block g hgl (.inl (by omega)))).trans E1.out
      rw [HF.out]
      clear ht5 ho5 f0
      go_wp2_with fail
      refine (markT ts t hne mid (p (i + 1)) _ _ _ (kk + (F : Int)) si _ HSZ.out.sl HSZ.out.mb HSZ.out.mr (by rw [HG.out]; omega) (by omega) (by omega) HP5.out).mono ?_
      rintro e w6 ⟨rfl, ht6, ho6⟩
      have HT6 := hide ((HT5.out.wide (Nat.le_refl _) m2).trans (ht6.wide m1 (Nat.le_refl _)))
      have HOA := hide (HO5.out.far ht6 (.inl (Nat.le_refl _)))
      have HOB := hide ho6
      rw [HG.out]
      clear ht6 ho6 f1
      have HQ6 : Hid (QW ts t tq w6 g R S C D p (mTo k zs (i + 1))) := hide (by
        show QW ts t tq w6 g R S C D p ((mTo k zs i).set i (mQ k zs i))
        refine HI.out.set (by rw [HML.out]; exact hlt) HT6.out ?_ ?_ ⟨mid, m1, m2, ?_, ?_⟩
        · rw [HAT.out]; exact marks2_length _ _
        · rw [HAT.out]; exact marks2_length _ _
        · show Obj2 ts t (p i) mid w6 (R i) (marks2 (k + (tQ zs i : Int)) (qz zs i).1)
          rw [HKK.out, HFI.out]; exact HOA.out
        · show Obj2 ts t mid (p (i + 1)) w6 (S i) (marks2 (k + (tQ zs i : Int) + (tot (qz zs i).1 : Int)) (qz zs i).2)
          rw [HKK.out, HFI.out, HSI.out, HF.out]; exact HOB.out)
      have HTN := hide (HT.out.trans (HT6.out.wide pl0 pln))
      have hnx : kk + (F : Int) + (G : Int) = k + (tQ zs (i + 1) : Int) := by
        show _ = k + ((tQ zs i + tot (qz zs i).1 + tot (qz zs i).2 : Nat) : Int)
        rw [← HKK.out, HFI.out, HSI.out, HF.out, HG.out]
        omega
      rw [hnx]
      have HNX := hide hnx
      clear hnx
      go_wp2_with fail
      go_roundw
      case rel => exact ⟨i + 1, by omega, rfl, by go_num, HTN.out, HQ6.out⟩
      case measure => simp [intOf]; omega
    · have hin : i = n := by omega
      subst hin
      go_wp2_with fail
      go_ret
      exact ⟨by rw [← HKK.out]; rfl, HT.out, HI.out⟩
set_option maxRecDepth 100000 in
theorem heldQ_any (A : Option Addr) (n c : Nat) (k : Int) (zs : List SolV) (w : World) (hn : zs.length = n) (hs : QSz zs) (hk : 0 ≤ k) (hk2 : k ≤ 1152921504606846976) (ha : RdQ w A (mTo k zs n)) :
    Calls Try.prog 51 #[.slice A n c, .int .i64 k] w fun e w' => e = .returned (.int .i64 (k + (tQ zs n : Int))) ∧ Below w.heap.size w w' := by
  have h12 : n ≤ 12 := by rw [← hn]; exact hs.len
  have HN := hide hn
  have HQ := hide hs
  have HA := hide ha
  clear hn hs ha
  go_enter Try.func51, Try.ntmps51
  go_wp2_with fail
  go_loopw [1, 5] (fun u v wr => ∃ i : Nat, i ≤ n ∧ u = .int .i64 (k + (tQ zs i : Int)) ∧ v = .int .i64 (i : Int) ∧ Below w.heap.size w wr) (fun _ v _ => n - (intOf v).toNat)
  case atStart => exact ⟨0, Nat.zero_le _, by simp [tQ], rfl, Below.refl _ _⟩
  case round =>
    obtain ⟨i, hi, rfl, rfl, hbe⟩ := hrel
    have HB := hide hbe
    clear hbe
    have htq := tQ_le HQ.out i (by rw [HN.out]; exact hi)
    obtain ⟨kk, hkk⟩ : ∃ kk, k + (tQ zs i : Int) = kk := ⟨_, rfl⟩
    rw [hkk]
    have hk0 : 0 ≤ kk := by omega
    have hkB : kk ≤ 1152921504606846976 + 3456 := by omega
    have HKK := hide hkk
    by_cases hlt : i < n
    · have hltz : (i : Int) < n := by omega
      have hil : i < zs.length := by rw [HN.out]; exact hlt
      have hml := mTo_length k zs n
      rw [HN.out] at hml
      have hat : qz (mTo k zs n) i = mQ k zs i := by rw [mTo_at k zs n i (by rw [HN.out]; exact Nat.le_refl _), if_pos hlt]
      obtain ⟨b1, o1, hA, hb1, hc1⟩ := HA.out (by omega)
      subst hA
      obtain ⟨R1, c1, S1, d1, e0, e1, r1, s1⟩ := hc1 i (by omega)
      rw [hat] at e0 e1 r1 s1
      have hsz := HQ.out.z hil
      have t1 := tot_12 (HQ.out.fl i hil) (HQ.out.fr i hil)
      have t2 := tot_12 (HQ.out.sl i hil) (HQ.out.sr i hil)
      have m1 : (mQ k zs i).1 = marks2 kk (qz zs i).1 := by rw [← hkk]; rfl
      have m2 : (mQ k zs i).2 = marks2 (kk + (tot (qz zs i).1 : Int)) (qz zs i).2 := by rw [← hkk]; rfl
      rw [m1] at e0 r1
      rw [m2] at e1 s1
      rw [marks2_length] at e0 e1
      obtain ⟨fi, hfi⟩ : ∃ f, (qz zs i).1 = f := ⟨_, rfl⟩
      obtain ⟨si, hsi⟩ : ∃ s, (qz zs i).2 = s := ⟨_, rfl⟩
      rw [hfi] at e0 r1 s1 hsz t1
      rw [hsi] at e1 s1 hsz t2
      obtain ⟨F, hF⟩ : ∃ F, tot fi = F := ⟨_, rfl⟩
      obtain ⟨G, hG⟩ : ∃ G, tot si = G := ⟨_, rfl⟩
      rw [hF] at s1 t1
      rw [hG] at t2
      have hnx : kk + (F : Int) + (G : Int) = k + (tQ zs (i + 1) : Int) := by
        show _ = k + ((tQ zs i + tot (qz zs i).1 + tot (qz zs i).2 : Nat) : Int)
        rw [← hkk, hfi, hsi, hF, hG]
        omega
      have f0 : wr.cell? ⟨b1, o1 + i * 2, none⟩ = some (.slice R1 fi.length c1) := (HB.out.cell (p := ⟨b1, o1 + i * 2, none⟩) hb1).trans e0
      have E1 := hide e1
      have HSZ := hide hsz
      have HR := hide r1
      have HS := hide s1
      have HNX := hide hnx
      have HF := hide hF
      have HG := hide hG
      clear hkk hml hat hc1 e0 e1 r1 s1 hsz m1 m2 hfi hsi hF hG hnx hil
      go_wp2_with fail
      refine (heldT _ _ _ kk fi _ HSZ.out.fl HSZ.out.nb HSZ.out.nr (by rw [HF.out]; omega) hk0 (by omega) (HR.out.later HB.out)).mono ?_
      rintro e w5 ⟨rfl, hq5⟩
      have HB5 := hide (HB.out.trans (hq5.below _))
      have f1 : w5.cell? ⟨b1, o1 + i * 2 + 1, none⟩ = some (.slice S1 si.length d1) := (HB5.out.cell (p := ⟨b1, o1 + i * 2 + 1, none⟩) hb1).trans E1.out
      rw [HF.out]
      have hn1 : ¬ (kk + (F : Int) < 0) := by omega
      clear hq5 f0
      go_wp2_with fail
      refine (heldT _ _ _ (kk + (F : Int)) si _ HSZ.out.sl HSZ.out.mb HSZ.out.mr (by rw [HG.out]; omega) (by omega) (by omega) (HS.out.later HB5.out)).mono ?_
      rintro e w6 ⟨rfl, hq6⟩
      have HB6 := hide (HB5.out.trans (hq6.below _))
      rw [HG.out]
      have hn2 : ¬ (kk + (F : Int) + (G : Int) < 0) := by omega
      clear hq6 f1
      go_wp2_with fail
      go_roundw
      case rel => exact ⟨i + 1, by omega, by rw [← HNX.out], by go_num, HB6.out⟩
      case measure => simp [intOf]; omega
    · have hin : i = n := by omega
      subst hin
      go_wp2_with fail
      go_ret
      exact ⟨by rw [← HKK.out]; rfl, HB.out⟩
end Go.Proofs.Ytaejgmdeiemhcaa
namespace Go.Proofs.Ytaejgmdeiemhcaa
open Go Go.RowKit
set_option maxHeartbeats 1000000

theorem inc_step {n j : Nat} {set : List Int} (h : ∀ i, i < j → (0 ≤ set.getD i 0 ∧ set.getD i 0 < (n : Int)) ∧ (0 < i → set.getD (i - 1) 0 < set.getD i 0)) (h1 : 0 ≤ set.getD j 0) (h2 : set.getD j 0 < (n : Int)) (h3 : 0 < j → set.getD (j - 1) 0 < set.getD j 0) : ∀ i, i < j + 1 → (0 ≤ set.getD i 0 ∧ set.getD i 0 < (n : Int)) ∧ (0 < i → set.getD (i - 1) 0 < set.getD i 0) := by
  intro i hi
  by_cases e : i = j
  · subst e; exact ⟨⟨h1, h2⟩, h3⟩
  · exact h i (by omega)

theorem hasSet_any (A : Option Addr) (n c : Nat) (B : Option Addr) (m d : Nat) (C : Option Addr) (k e : Nat) (set : List Int) (r : Bool) (w : World) (hn : n ≤ 1048576) (hk : set.length = k) (hkb : k ≤ 9223372036854775807) (hs : Rd w C set) (hr : r = true ↔ IncSet n set) :
    Calls Try.prog 130 #[.agg #[.slice A n c, .slice B m d], .slice C k e] w fun e w' => e = .returned (.bool r) ∧ Below w.heap.size w w' := by
  have HK := hide hk
  have HS := hide hs
  have HR := hide hr
  have HB0 := hide ((Below.refl _ w).alloc (Nat.le_refl _) (Obj.cells #[Value.slice A n c, Value.slice B m d] 28))
  have HK0 := hide (Blk.new w 28 [.slice A n c, .slice B m d])
  clear hk hs hr
  go_enter Try.func130, Try.ntmps130
  go_wp2_with fail
  go_loopw [9] (fun i wr => ∃ j : Nat, j ≤ k ∧ i = .int .i64 j ∧ Below w.heap.size w wr ∧ Blk wr w.heap.size 28 [.slice A n c, .slice B m d] ∧ ∀ i, i < j → (0 ≤ set.getD i 0 ∧ set.getD i 0 < (n : Int)) ∧ (0 < i → set.getD (i - 1) 0 < set.getD i 0)) (fun i _ => k - (intOf i).toNat)
  case atStart => exact ⟨0, Nat.zero_le _, rfl, HB0.out, HK0.out, fun i hi => absurd hi (Nat.not_lt_zero _)⟩
  case round =>
    obtain ⟨j, hj, rfl, hbe, hkk, hall⟩ := hrel
    have HB := hide hbe
    have HKK := hide hkk
    have HALL := hide hall
    clear hbe hkk hall
    have k0 := HKK.out.cell 0 _ rfl
    have k1 := HKK.out.cell 1 _ rfl
    by_cases hlt : j < k
    · have hjz : (j : Int) < k := by omega
      obtain ⟨b, o, rfl, hbw, hc⟩ := HS.out (by have := HK.out; omega)
      have hc1 := hc j (by have := HK.out; omega)
      obtain ⟨u, hu⟩ : ∃ u, set.getD j 0 = u := ⟨_, rfl⟩
      rw [hu] at hc1
      have HU := hide hu
      have hc2 : wr.cell? ⟨b, o + j, none⟩ = some (.int .i64 u) := (HB.out.cell (p := ⟨b, o + j, none⟩) hbw).trans hc1
      clear hu hc1
      have hno : ¬ ((0 ≤ u ∧ u < (n : Int)) ∧ (0 < j → set.getD (j - 1) 0 < u)) → r = false := fun h => by
        cases r
        · rfl
        · have h0 := (HR.out.1 rfl).1 j (by have := HK.out; omega)
          rw [HU.out] at h0
          exact absurd h0 h
      have HNO := hide hno
      clear hno
      by_cases h0 : u < 0
      · have hrf := HNO.out (fun h => by omega)
        subst hrf
        clear hc
        go_wp2_with fail
        go_ret
        exact ⟨rfl, HB.out⟩
      · have HC := hide hc
        have h00 : 0 ≤ u := by omega
        clear hc
        go_wp2_with fail
        refine (size_any _ _ _ _ _ _ _ hn).mono ?_
        rintro e w2 ⟨rfl, hb2⟩
        have HB2 := hide (HB.out.trans (hb2.mono HB.out.size))
        have HK2 := hide (HKK.out.later hb2)
        clear hb2 k0 k1 hc2
        by_cases h1 : (n : Int) ≤ u
        · have hrf := HNO.out (fun h => by omega)
          subst hrf
          go_wp2_with fail
          go_ret
          exact ⟨rfl, HB2.out⟩
        · have h11 : ¬ (n : Int) ≤ u := h1
          rcases j with _ | j
          · go_wp2_with fail
            go_roundw
            case rel => exact ⟨1, by omega, by go_num, HB2.out, HK2.out, inc_step HALL.out (by rw [HU.out]; omega) (by rw [HU.out]; omega) (fun h => absurd h (Nat.lt_irrefl _))⟩
            case measure => simp [intOf]; omega
          · have hp1 := HC.out j (by have := HK.out; omega)
            obtain ⟨v, hv⟩ : ∃ v, set.getD j 0 = v := ⟨_, rfl⟩
            rw [hv] at hp1
            have HV := hide hv
            have hp2 : w2.cell? ⟨b, o + j, none⟩ = some (.int .i64 v) := (HB2.out.cell (p := ⟨b, o + j, none⟩) hbw).trans hp1
            have hji : ((j + 1 : Nat) : Int) - 1 = (j : Int) := by omega
            have hj0 : (0 : Int) < ((j + 1 : Nat) : Int) := by omega
            clear hv hp1
            by_cases h2 : u ≤ v
            · have hrf := HNO.out (fun h => by have := h.2 (Nat.succ_pos _); rw [Nat.add_sub_cancel, HV.out] at this; omega)
              subst hrf
              go_wp2_with fail
              go_ret
              exact ⟨rfl, HB2.out⟩
            · have h22 : ¬ u ≤ v := h2
              go_wp2_with fail
              go_roundw
              case rel => exact ⟨j + 1 + 1, by omega, by go_num, HB2.out, HK2.out, inc_step HALL.out (by rw [HU.out]; omega) (by rw [HU.out]; omega) (fun _ => by rw [Nat.add_sub_cancel, HV.out, HU.out]; omega)⟩
              case measure => simp [intOf]; omega
    · have hjk : j = k := by omega
      subst hjk
      have hrv : r = decide (0 < j) := by
        by_cases h : 0 < j
        · have h1 : r = true := HR.out.2 ⟨fun i hi => HALL.out i (by have := HK.out; omega), by have := HK.out; omega⟩
          rw [h1]; simp [h]
        · have h1 : r = false := by
            cases r
            · rfl
            · have := (HR.out.1 rfl).2; have := HK.out; omega
          rw [h1]; simp [h]
      have HRV := hide hrv
      clear hrv
      go_wp2_with fail
      go_ret
      exact ⟨by rw [HRV.out]; rfl, HB.out⟩

theorem isClosed_any (A : Option Addr) (n c : Nat) (f : List (List Int)) (B : Option Addr) (m d : Nat) (s : List (List Int)) (C : Option Addr) (k e : Nat) (set : List Int) (r : Bool) (w : World) (hz : ZArg 1048576 w A n f B m s) (hp : PMap f s) (hk : set.length = k) (hi : IncSet n set) (hs : Rd w C set) (hr : r = true ↔ ClF f s set) :
    Calls Try.prog 131 #[.agg #[.slice A n c, .slice B m d], .slice C k e] w fun e w' => e = .returned (.bool r) ∧ Below w.heap.size w w' := by
  have HZ := hide hz
  have HP := hide hp
  have HK := hide hk
  have HI := hide hi
  have HS := hide hs
  have HR := hide hr
  have hkb : k ≤ 1048576 := by have h1 := hi.le; have h2 := hz.sz.nb; omega
  have HB0 := hide ((Below.refl _ w).alloc (Nat.le_refl _) (Obj.cells #[Value.slice A n c, Value.slice B m d] 28))
  have HK0 := hide (Blk.new w 28 [.slice A n c, .slice B m d])
  clear hz hp hk hi hs hr
  go_enter Try.func131, Try.ntmps131
  go_wp2_with fail
  go_loopw [12] (fun i wr => ∃ x : Nat, x ≤ k ∧ i = .int .i64 x ∧ Below w.heap.size w wr ∧ Blk wr w.heap.size 28 [.slice A n c, .slice B m d] ∧ ∀ i j, i < x → j < k → ((ap f (set.getD i 0).toNat (set.getD j 0).toNat : Nat) : Int) ∈ set ∧ ((ap s (set.getD i 0).toNat (set.getD j 0).toNat : Nat) : Int) ∈ set) (fun i _ => k - (intOf i).toNat)
  case atStart => exact ⟨0, Nat.zero_le _, rfl, HB0.out, HK0.out, fun i j hi => absurd hi (Nat.not_lt_zero _)⟩
  case round =>
    obtain ⟨x, hx, rfl, hbe, hkk, hall⟩ := hrel
    have HB := hide hbe
    have HKK := hide hkk
    have HALL := hide hall
    clear hbe hkk hall
    by_cases hlt : x < k
    · have hxz : (x : Int) < k := by omega
      obtain ⟨b, o, rfl, hbw, hc⟩ := HS.out (by have := HK.out; omega)
      obtain ⟨a, ha, han⟩ := HI.out.at (i := x) (by have := HK.out; omega)
      have hc1 := hc x (by have := HK.out; omega)
      rw [ha] at hc1
      have HA := hide ha
      have hc2 : wr.cell? ⟨b, o + x, none⟩ = some (.int .i64 a) := (HB.out.cell (p := ⟨b, o + x, none⟩) hbw).trans hc1
      have HC := hide hc
      clear ha hc1 hc
      go_wp2_with fail
      clear hc2
      obtain ⟨wo, rfl⟩ : ∃ wo : World, wo = wr := ⟨_, rfl⟩
      go_loopw [18] (fun i wi => ∃ y : Nat, y ≤ k ∧ i = .int .i64 y ∧ Below w.heap.size w wi ∧ Blk wi w.heap.size 28 [.slice A n c, .slice B m d] ∧ ∀ j, j < y → ((ap f a (set.getD j 0).toNat : Nat) : Int) ∈ set ∧ ((ap s a (set.getD j 0).toNat : Nat) : Int) ∈ set) (fun i _ => k - (intOf i).toNat)
      case atStart => exact ⟨0, Nat.zero_le _, rfl, HB.out, HKK.out, fun j hj => absurd hj (Nat.not_lt_zero _)⟩
      case round =>
        obtain ⟨y, hy, rfl, hbi, hki, halli⟩ := hrel
        have HBI := hide hbi
        have HKI := hide hki
        have HALLI := hide halli
        clear hbi hki halli
        by_cases hlty : y < k
        · have hyz : (y : Int) < k := by omega
          obtain ⟨g, hg, hgn⟩ := HI.out.at (i := y) (by have := HK.out; omega)
          have hd1 := HC.out y (by have := HK.out; omega)
          rw [hg] at hd1
          have HG := hide hg
          have hd2 : wr.cell? ⟨b, o + y, none⟩ = some (.int .i64 g) := (HBI.out.cell (p := ⟨b, o + y, none⟩) hbw).trans hd1
          have k0 := HKI.out.cell 0 _ rfl
          have k1 := HKI.out.cell 1 _ rfl
          obtain ⟨u, hu⟩ : ∃ u, ap f a g = u := ⟨_, rfl⟩
          obtain ⟨v, hv⟩ : ∃ v, ap s a g = v := ⟨_, rfl⟩
          have HU := hide hu
          have HV := hide hv
          have hno : ¬ ((u : Int) ∈ set ∧ (v : Int) ∈ set) → r = false := fun h => by
            cases r
            · rfl
            · have h0 := (HR.out.1 rfl) x y (by have := HK.out; omega) (by have := HK.out; omega)
              rw [HA.out, HG.out, Int.toNat_natCast, Int.toNat_natCast, HU.out, HV.out] at h0
              exact absurd h0 h
          have HNO := hide hno
          clear hg hd1 hu hv hno
          go_wp2_with fail
          refine calls_gen fun w3 hw3 => ?_
          have HB3 : Hid (Below w.heap.size w w3) := hide (by rw [hw3]; first | exact HBI.out.alloc HBI.out.size _ | exact HBI.out)
          have HK3 : Hid (Blk w3 w.heap.size 28 [.slice A n c, .slice B m d]) := hide (by rw [hw3]; first | exact HKI.out.alloc _ | exact HKI.out)
          refine (lead_any _ _ _ f _ _ _ s a g _ (HZ.out.later HB3.out) HP.out han hgn).mono ?_
          rintro e w4 ⟨rfl, hb4⟩
          rw [HU.out, HV.out]
          have HB4 := hide (HB3.out.trans (hb4.mono HB3.out.size))
          have HK4 := hide (HK3.out.later hb4)
          clear hb4 hw3 k0 k1 hd2
          go_wp2_with fail
          refine calls_gen fun w5 hw5 => ?_
          have HB5 : Hid (Below w.heap.size w w5) := hide (by rw [hw5]; exact HB4.out.alloc HB4.out.size _)
          have HK5 : Hid (Blk w5 w.heap.size 28 [.slice A n c, .slice B m d]) := hide (by rw [hw5]; exact HK4.out.alloc _)
          have HP5 : Hid (Blk w5 w4.heap.size 91 [.int .i64 u, .int .i64 v]) := hide (by rw [hw5]; exact Blk.new _ _ _)
          clear hw5
          by_cases hin1 : (u : Int) ∈ set
          · refine (containsI_any _ k e set u true _ HK.out (by omega) (HS.out.later HB5.out) (by simp [hin1])).mono ?_
            rintro e w6 ⟨rfl, hq6⟩
            have hb6 := hq6.below w5.heap.size
            have HB6 := hide (HB5.out.trans (hb6.mono HB5.out.size))
            have HK6 := hide (HK5.out.later hb6)
            have k2 := (HP5.out.later hb6).cell 0 _ rfl
            have k3 := (HP5.out.later hb6).cell 1 _ rfl
            clear hq6 hb6
            go_wp2_with fail
            clear k2 k3
            by_cases hin2 : (v : Int) ∈ set
            · have HIN := hide (And.intro hin1 hin2)
              refine (containsI_any _ k _ set v true _ HK.out (by omega) (HS.out.later HB6.out) (by simp [hin2])).mono ?_
              rintro e w7 ⟨rfl, hq7⟩
              have hb7 := hq7.below w6.heap.size
              have HB7 := hide (HB6.out.trans (hb7.mono HB6.out.size))
              have HK7 := hide (HK6.out.later hb7)
              clear hq7 hb7 hin1 hin2
              go_wp2_with fail
              go_roundw
              case rel =>
                refine ⟨y + 1, by omega, by go_num, HB7.out, HK7.out, fun j hj => ?_⟩
                by_cases e : j = y
                · subst e
                  rw [HG.out, Int.toNat_natCast, HU.out, HV.out]
                  exact HIN.out
                · exact HALLI.out j (by omega)
              case measure => simp [intOf]; omega
            · have hrf := HNO.out (fun h => hin2 h.2)
              subst hrf
              refine (containsI_any _ k _ set v false _ HK.out (by omega) (HS.out.later HB6.out) (by simp [hin2])).mono ?_
              rintro e w7 ⟨rfl, hq7⟩
              have HB7 := hide (HB6.out.trans (hq7.below _))
              clear hq7 hin1 hin2
              go_wp2_with fail
              go_ret
              exact ⟨rfl, HB7.out⟩
          · have hrf := HNO.out (fun h => hin1 h.1)
            subst hrf
            refine (containsI_any _ k _ set u false _ HK.out (by omega) (HS.out.later HB5.out) (by simp [hin1])).mono ?_
            rintro e w6 ⟨rfl, hq6⟩
            have HB6 := hide (HB5.out.trans (hq6.below _))
            clear hq6 hin1
            go_wp2_with fail
            go_ret
            exact ⟨rfl, HB6.out⟩
        · have hyk : y = k := by omega
          subst hyk
          go_wp2_with fail
          go_roundw
          case rel =>
            refine ⟨x + 1, by omega, by go_num, HBI.out, HKI.out, fun i j hi hj => ?_⟩
            by_cases e : i = x
            · subst e
              rw [HA.out, Int.toNat_natCast]
              exact HALLI.out j hj
            · exact HALL.out i j (by omega) hj
          case measure => simp [intOf]; omega
    · have hxk : x = k := by omega
      subst hxk
      have hrt : r = true := HR.out.2 (fun i j hi hj => HALL.out i j (by have := HK.out; omega) (by have := HK.out; omega))
      subst hrt
      go_wp2_with fail
      go_ret
      exact ⟨rfl, HB.out⟩

theorem csI_any (A : Option Addr) (n c : Nat) (f : List (List Int)) (B : Option Addr) (m d : Nat) (s : List (List Int)) (C : Option Addr) (k e : Nat) (set : List Int) (r : Bool) (code : Int) (w : World) (hz : ZArg 1048576 w A n f B m s) (hk : set.length = k) (hkb : k ≤ 1048576) (hs : Rd w C set) (hr : CsRes f s set r code) :
    Calls Try.prog 106 #[.agg #[.slice A n c, .slice B m d], .slice C k e] w fun e w' => e = .returned (.tuple #[.bool r, .int .i64 code]) ∧ Below w.heap.size w w' := by
  have hnb := hz.sz.nb
  have HZ := hide hz
  have HK := hide hk
  have HS := hide hs
  have hfl := hz.sz.fl
  have HB0 := hide ((Below.refl _ w).alloc (Nat.le_refl _) (Obj.cells #[Value.slice A n c, Value.slice B m d] 28))
  have HK0 := hide (Blk.new w 28 [.slice A n c, .slice B m d])
  have hpo : PMap f s ∨ ¬ PMap f s := Classical.em _
  rcases hpo with hp | hp
  · have HP := hide hp
    obtain ⟨r1, hr1⟩ := bool_of (IncSet f.length set)
    have HR1 := hide hr1
    rw [hfl] at hr1
    have HR1n := hide hr1
    have HR := hide hr
    clear hp hr hz hk hs hr1 hfl
    go_enter Try.func106, Try.ntmps106
    go_wp2_with fail
    refine (mapI_any _ _ _ f _ _ _ s true _ (HZ.out.later HB0.out) (by simp [HP.out])).mono ?_
    rintro e w1 ⟨rfl, hb1⟩
    have HB1 := hide (HB0.out.trans (hb1.mono HB0.out.size))
    have HK1 := hide (HK0.out.later hb1)
    have k0 := HK1.out.cell 0 _ rfl
    have k1 := HK1.out.cell 1 _ rfl
    clear hb1
    go_wp2_with fail
    refine (hasSet_any _ _ _ _ _ _ _ _ _ set r1 _ hnb HK.out (by omega) (HS.out.later HB1.out) HR1n.out).mono ?_
    rintro e w2 ⟨rfl, hb2⟩
    have HB2 := hide (HB1.out.trans (hb2.mono HB1.out.size))
    have HK2 := hide (HK1.out.later hb2)
    clear hb2 k0 k1
    have k0 := HK2.out.cell 0 _ rfl
    have k1 := HK2.out.cell 1 _ rfl
    cases r1
    · have hni : ¬ IncSet f.length set := fun h => by have := HR1.out.2 h; cases this
      rcases HR.out with ⟨_, h, _⟩ | ⟨_, _, rfl, rfl⟩ | ⟨h, _⟩
      · exact absurd h hni
      · clear hni
        go_wp2_with fail
        go_ret2
        exact ⟨rfl, HB2.out⟩
      · exact absurd HP.out h
    · have hin : IncSet f.length set := HR1.out.1 rfl
      rcases HR.out with ⟨_, _, hrr, rfl⟩ | ⟨_, h, _⟩ | ⟨h, _⟩
      · have HIN : Hid (IncSet n set) := hide (HR1n.out.1 rfl)
        have HRR := hide hrr
        clear hrr hin
        go_wp2_with fail
        refine (isClosed_any _ _ _ f _ _ _ s _ _ _ set r _ (HZ.out.later HB2.out) HP.out HK.out HIN.out (HS.out.later HB2.out) HRR.out).mono ?_
        rintro e w3 ⟨rfl, hb3⟩
        have HB3 := hide (HB2.out.trans (hb3.mono HB2.out.size))
        clear hb3 k0 k1
        go_wp2_with fail
        go_ret2
        exact ⟨rfl, HB3.out⟩
      · exact absurd hin h
      · exact absurd HP.out h
  · have HP := hide hp
    rcases hr with ⟨h, _⟩ | ⟨h, _⟩ | ⟨_, rfl, rfl⟩
    · exact absurd h hp
    · exact absurd h hp
    · clear hp hz hk hs
      go_enter Try.func106, Try.ntmps106
      go_wp2_with fail
      refine (mapI_any _ _ _ f _ _ _ s false _ (HZ.out.later HB0.out) (by simp [HP.out])).mono ?_
      rintro e w1 ⟨rfl, hb1⟩
      have HB1 := hide (HB0.out.trans (hb1.mono HB0.out.size))
      clear hb1
      go_wp2_with fail
      go_ret2
      exact ⟨rfl, HB1.out⟩
end Go.Proofs.Ytaejgmdeiemhcaa
