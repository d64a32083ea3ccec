import Derived.Test.YtcmoeapgpljeiaaProg
import Derived.Test.YtcmoeapgpljeiaaCmpF
import Derived.Test.YtcmoeapgpljeiaaLzF
import Derived.Test.YtcmoeapgpljeiaaBlk
import Derived.Test.YtcmoeapgpljeiaaFb
import Derived.Test.YtcmoeapgpljeiaaHeld
import Derived.Test.YtcmoeapgpljeiaaMapI
import Derived.Test.YtcmoeapgpljeiaaReads
import Derived.Test.YtcmoeapgpljeiaaRsF
import Derived.Test.YtcmoeapgpljeiaaZEnd
import Derived.Test.YtcmoeapgpljeiaaPrm
import Derived.Test.YtcmoeapgpljeiaaRenG
import Derived.Test.YtcmoeapgpljeiaaAdvF
import Derived.BigRegion
import Derived.Test.YtcmoeapgpljeiaaOwn
import Derived.Test.YtcmoeapgpljeiaaZArg
import Derived.Test.YtcmoeapgpljeiaaLst
import Derived.Test.YtcmoeapgpljeiaaRenF
import Derived.Test.YtcmoeapgpljeiaaPig
import Derived.StillTailTactics
import Derived.Test.YtcmoeapgpljeiaaMapS
import Derived.Test.YtcmoeapgpljeiaaPrmS
import Derived.Test.YtcmoeapgpljeiaaClF
import Derived.Test.YtcmoeapgpljeiaaEqI
import Derived.Test.YtcmoeapgpljeiaaPermsF
import Derived.Test.YtcmoeapgpljeiaaHas
import Derived.Test.YtcmoeapgpljeiaaIn
import Derived.Deep.DeepCutAuto
namespace Go.Proofs.Ytcmoeapgpljeiaa
open Go Go.RowKit
set_option maxHeartbeats 1000000

def cmp1 (x y : Int) : Int := if x < y then -1 else if y < x then 1 else 0
theorem cmp1_any (x y : Int) (w : World) :
    Calls Try.prog 131 #[.int .i64 x, .int .i64 y] w fun e w' => e = .returned (.int .i64 (cmp1 x y)) ∧ w = w' := by
  have hx : (x != x) = false := by simp
  have hy : (y != y) = false := by simp
  by_cases h1 : x < y
  · have hc : cmp1 x y = -1 := by unfold cmp1; rw [if_pos h1]
    have HC := hide hc
    clear hc
    go_enter Try.func131, Try.ntmps131
    go_wp2
    go_ret
    exact ⟨by rw [HC.out]; rfl, rfl⟩
  · by_cases h2 : y < x
    · have hc : cmp1 x y = 1 := by unfold cmp1; rw [if_neg h1, if_pos h2]
      have HC := hide hc
      clear hc
      go_enter Try.func131, Try.ntmps131
      go_wp2
      go_ret
      exact ⟨by rw [HC.out]; rfl, rfl⟩
    · have hc : cmp1 x y = 0 := by unfold cmp1; rw [if_neg h1, if_neg h2]
      have HC := hide hc
      clear hc
      go_enter Try.func131, Try.ntmps131
      go_wp2
      go_ret
      exact ⟨by rw [HC.out]; rfl, rfl⟩

theorem cmpR_any (A B : Option Addr) (n c d : Nat) (xs ys : List Int) (w : World) (hn : xs.length = n) (hm : ys.length = n) (hb : n ≤ 9223372036854775807) (hx : Rd w A xs) (hy : Rd w B ys) :
    Calls Try.prog 126 #[.slice A n c, .slice B n d] w fun e w' => e = .returned (.int .i64 (cmpL xs ys)) ∧ Quiet w w' := by
  have HN := hide hn
  have HM := hide hm
  clear hn hm
  go_enter Try.func126, Try.ntmps126
  go_wp2_with fail
  go_loopw [11] (fun i wr => ∃ k : Nat, k ≤ n ∧ i = .int .i64 k ∧ Quiet w wr ∧ cmpL xs ys = cmpL (xs.drop k) (ys.drop k)) (fun i _ => n - (intOf i).toNat)
  case atStart => exact ⟨0, Nat.zero_le _, rfl, Quiet.refl w, rfl⟩
  case round =>
    obtain ⟨k, hk, rfl, hq, hall⟩ := hrel
    have HQ := hide hq
    have HALL := hide hall
    clear hq hall
    by_cases hlt : k < n
    · obtain ⟨b, o, rfl, _, hc⟩ := HQ.out.rd hx (by have := HN.out; omega)
      obtain ⟨b2, o2, rfl, _, hc2⟩ := HQ.out.rd hy (by have := HM.out; omega)
      have h1 := hc k (by have := HN.out; omega)
      have h2 := hc2 k (by have := HM.out; omega)
      have e1 := drop_cons xs k (by have := HN.out; omega)
      have e2 := drop_cons ys k (by have := HM.out; omega)
      obtain ⟨x, hx⟩ : ∃ x, xs.getD k 0 = x := ⟨_, rfl⟩
      obtain ⟨y, hy⟩ : ∃ y, ys.getD k 0 = y := ⟨_, rfl⟩
      rw [hx] at h1 e1
      rw [hy] at h2 e2
      have E1 := hide e1
      have E2 := hide e2
      obtain ⟨v, hv⟩ : ∃ v, cmp1 x y = v := ⟨_, rfl⟩
      have HV := hide hv
      clear hx hy hc hc2 e1 e2 hv
      have hltz : (k : Int) < n := by omega
      by_cases hv0 : v = 0
      · have hxy : x = y := by
          have h := HV.out
          unfold cmp1 at h
          split at h
          · omega
          · split at h <;> omega
        have HXY := hide hxy
        subst hv0
        clear hxy
        go_wp2_with fail
        refine (cmp1_any x y _).mono ?_
        rintro e w2 ⟨rfl, rfl⟩
        rw [HV.out]
        go_wp2_with fail
        go_roundw
        case rel =>
          refine ⟨k + 1, by omega, by go_num, HQ.out, ?_⟩
          rw [HALL.out, E1.out, E2.out, cmpL, if_neg (by have := HXY.out; omega), if_neg (by have := HXY.out; omega)]
        case measure => simp [intOf]; omega
      · have hne : (v != 0) = true := by simpa using hv0
        have HV0 := hide hv0
        clear hv0
        go_wp2_with fail
        refine (cmp1_any x y _).mono ?_
        rintro e w2 ⟨rfl, rfl⟩
        rw [HV.out]
        go_wp2_with fail
        go_ret
        have hres : cmpL xs ys = v := by
          rw [HALL.out, E1.out, E2.out, cmpL]
          have h := HV.out
          unfold cmp1 at h
          by_cases h1 : x < y
          · rw [if_pos h1] at h ⊢
            exact h
          · rw [if_neg h1] at h ⊢
            by_cases h2 : y < x
            · rw [if_pos h2] at h ⊢
              exact h
            · rw [if_neg h2] at h
              exact absurd h.symm HV0.out
        exact ⟨by rw [hres]; rfl, HQ.out⟩
    · have hkn : k = n := by omega
      subst hkn
      go_wp2_with fail
      go_ret
      have h := HALL.out
      rw [List.drop_of_length_le (by have := HN.out; omega), List.drop_of_length_le (by have := HM.out; omega)] at h
      exact ⟨by rw [h]; rfl, HQ.out⟩
end Go.Proofs.Ytcmoeapgpljeiaa
namespace Go.Proofs.Ytcmoeapgpljeiaa
open Go Go.RowKit
set_option maxHeartbeats 1000000

theorem cmpF_any (A B : Option Addr) (n c d : Nat) (xs ys : List (List Int)) (w : World) (hn : xs.length = n) (hm : ys.length = n) (hb : n ≤ 1048576) (hxs : ∀ i, i < xs.length → (xs.getD i []).length = n) (hys : ∀ i, i < ys.length → (ys.getD i []).length = n) (hx : Rd2 w A xs) (hy : Rd2 w B ys) :
    Calls Try.prog 125 #[.slice A n c, .slice B n d, .func (.func 126) #[] #[]] w fun e w' => e = .returned (.int .i64 (cmpT xs ys)) ∧ Quiet w w' := by
  have HN := hide hn
  have HM := hide hm
  clear hn hm
  go_enter Try.func125, Try.ntmps125
  go_wp2_with fail
  go_loopw [13] (fun i wr => ∃ k : Nat, k ≤ n ∧ i = .int .i64 k ∧ Quiet w wr ∧ cmpT xs ys = cmpT (xs.drop k) (ys.drop k)) (fun i _ => n - (intOf i).toNat)
  case atStart => exact ⟨0, Nat.zero_le _, rfl, Quiet.refl w, rfl⟩
  case round =>
    obtain ⟨k, hk, rfl, hq, hall⟩ := hrel
    have HQ := hide hq
    have HALL := hide hall
    clear hq hall
    by_cases hlt : k < n
    · obtain ⟨b, o, rfl, _, hc⟩ := HQ.out.rd2 hx (by have := HN.out; omega)
      obtain ⟨b2, o2, rfl, _, hc2⟩ := HQ.out.rd2 hy (by have := HM.out; omega)
      obtain ⟨A1, c1, h1, r1⟩ := hc k (by have := HN.out; omega)
      obtain ⟨A2, c2, h2, r2⟩ := hc2 k (by have := HM.out; omega)
      have l1 := hxs k (by have := HN.out; omega)
      have l2 := hys k (by have := HM.out; omega)
      have e1 := drop_cons2 xs k (by have := HN.out; omega)
      have e2 := drop_cons2 ys k (by have := HM.out; omega)
      obtain ⟨x, hx⟩ : ∃ x, xs.getD k [] = x := ⟨_, rfl⟩
      obtain ⟨y, hy⟩ : ∃ y, ys.getD k [] = y := ⟨_, rfl⟩
      rw [hx] at h1 e1 r1 l1
      rw [hy] at h2 e2 r2 l2
      rw [l1] at h1
      rw [l2] at h2
      have E1 := hide e1
      have E2 := hide e2
      have L1 := hide l1
      have L2 := hide l2
      obtain ⟨v, hv⟩ : ∃ v, cmpL x y = v := ⟨_, rfl⟩
      have HV := hide hv
      clear hx hy hc hc2 e1 e2 hv l1 l2 hxs hys
      have hltz : (k : Int) < n := by omega
      by_cases hv0 : v = 0
      · subst hv0
        go_wp2_with fail
        refine (cmpR_any _ _ _ _ _ x y _ L1.out L2.out (by omega) r1 r2).mono ?_
        rintro e w2 ⟨rfl, hq2⟩
        have HQ2 := hide hq2
        rw [HV.out]
        clear hq2
        go_wp2_with fail
        go_roundw
        case rel =>
          refine ⟨k + 1, by omega, by go_num, HQ.out.trans HQ2.out, ?_⟩
          rw [HALL.out, E1.out, E2.out, cmpT, if_pos HV.out]
        case measure => simp [intOf]; omega
      · have hne : (v != 0) = true := by simpa using hv0
        have HV0 := hide hv0
        clear hv0
        go_wp2_with fail
        refine (cmpR_any _ _ _ _ _ x y _ L1.out L2.out (by omega) r1 r2).mono ?_
        rintro e w2 ⟨rfl, hq2⟩
        have HQ2 := hide hq2
        rw [HV.out]
        clear hq2
        go_wp2_with fail
        go_ret
        have hres : cmpT xs ys = v := by
          rw [HALL.out, E1.out, E2.out, cmpT, HV.out, if_neg HV0.out]
        exact ⟨by rw [hres]; rfl, HQ.out.trans HQ2.out⟩
    · have hkn : k = n := by omega
      subst hkn
      go_wp2_with fail
      go_ret
      have h := HALL.out
      rw [List.drop_of_length_le (by have := HN.out; omega), List.drop_of_length_le (by have := HM.out; omega)] at h
      exact ⟨by rw [h]; rfl, HQ.out⟩

theorem compareTables_any (A B : Option Addr) (n c d : Nat) (xs ys : List (List Int)) (v : Int) (w : World) (hn : xs.length = n) (hm : ys.length = n) (hb : n ≤ 1048576) (hxs : ∀ i, i < xs.length → (xs.getD i []).length = n) (hys : ∀ i, i < ys.length → (ys.getD i []).length = n) (hx : Rd2 w A xs) (hy : Rd2 w B ys) (hv : cmpT xs ys = v) :
    Calls Try.prog 114 #[.slice A n c, .slice B n d] w fun e w' => e = .returned (.int .i64 v) ∧ Quiet w w' := by
  have HN := hide hn
  have HM := hide hm
  have HV := hide hv
  clear hn hm hv
  go_enter Try.func114, Try.ntmps114
  go_wp2_with fail
  refine (cmpF_any _ _ _ _ _ xs ys _ HN.out HM.out hb hxs hys hx hy).mono ?_
  rintro e w2 ⟨rfl, hq2⟩
  rw [HV.out]
  have HQ2 := hide hq2
  clear hq2
  go_wp2_with fail
  go_ret
  exact ⟨rfl, HQ2.out⟩
end Go.Proofs.Ytcmoeapgpljeiaa
namespace Go.Proofs.Ytcmoeapgpljeiaa
open Go Go.RowKit
set_option maxHeartbeats 1000000

theorem or_any (g c : Nat) (a b : Int) (w : World) (h0 : w.cell? ⟨g, 0, none⟩ = some (.int .i64 a)) (h1 : w.cell? ⟨g, 1, none⟩ = some (.int .i64 b)) :
    Calls Try.prog 113 #[.slice (some ⟨g, 0, none⟩) 2 c] w fun e w' => e = .returned (.int .i64 (if a = 0 then b else a)) ∧ Quiet w w' := by
  have H0 := hide h0
  have H1 := hide h1
  clear h0 h1
  go_enter Try.func113, Try.ntmps113
  go_wp2_with fail
  go_loopw [8] (fun i wr => ∃ k : Nat, k ≤ 2 ∧ i = .int .i64 k ∧ Quiet w wr ∧ (0 < k → a = 0) ∧ (1 < k → b = 0)) (fun i _ => 2 - (intOf i).toNat)
  case atStart => exact ⟨0, by omega, rfl, Quiet.refl _, fun h => absurd h (by omega), fun h => absurd h (by omega)⟩
  case round =>
    obtain ⟨k, hk, rfl, hq, ha, hb⟩ := hrel
    have HQ := hide hq
    have HA := hide ha
    have HB := hide hb
    have c0 := (hq.cell ⟨g, 0, none⟩).trans H0.out
    have c1 := (hq.cell ⟨g, 1, none⟩).trans H1.out
    clear hq ha hb
    rcases k with _ | _ | _ | k
    · by_cases e : a = 0
      · have HE := hide e
        have e' : (a != 0) = false := by simpa using e
        clear e
        go_wp2_with fail
        go_roundw
        case rel => exact ⟨1, by omega, rfl, HQ.out, fun _ => HE.out, fun h => absurd h (by omega)⟩
        case measure => simp [intOf]
      · have HE := hide e
        have e' : (a != 0) = true := by simpa using e
        clear e
        go_wp2_with fail
        go_ret
        exact ⟨by first | rfl | (rw [if_neg HE.out]; rfl), HQ.out⟩
    · have ha0 := HA.out (by omega)
      by_cases e : b = 0
      · have HE := hide e
        have HE0 := hide ha0
        have e' : (b != 0) = false := by simpa using e
        clear e ha0
        go_wp2_with fail
        go_roundw
        case rel => exact ⟨2, by omega, rfl, HQ.out, fun _ => HE0.out, fun _ => HE.out⟩
        case measure => simp [intOf]
      · have HE0 := hide ha0
        have e' : (b != 0) = true := by simpa using e
        clear e ha0
        go_wp2_with fail
        go_ret
        exact ⟨by first | rfl | (rw [if_pos HE0.out]; rfl), HQ.out⟩
    · have HE0 := hide (HA.out (by omega))
      have HE := hide (HB.out (by omega))
      go_wp2_with fail
      go_ret
      exact ⟨by first | rfl | (rw [HE.out]; rfl) | (rw [if_pos HE0.out, HE.out]; rfl), HQ.out⟩
    · omega

theorem or_cells {a b : World} {t : TypeId} {x y : Int} (h : a = b.alloc (.cells #[.int .i64 x, .int .i64 y] t) ∨ a = (b.alloc (.cells #[.int .i64 x, .int .i64 y] t)).drew) : a.cell? ⟨b.heap.size, 0, none⟩ = some (.int .i64 x) ∧ a.cell? ⟨b.heap.size, 1, none⟩ = some (.int .i64 y) := by
  have hk : Blk (b.alloc (.cells #[.int .i64 x, .int .i64 y] t)) b.heap.size t [.int .i64 x, .int .i64 y] := Blk.new _ _ _
  rcases h with rfl | rfl
  · exact ⟨hk.cell 0 _ rfl, hk.cell 1 _ rfl⟩
  · exact ⟨hk.drew.cell 0 _ rfl, hk.drew.cell 1 _ rfl⟩

set_option maxRecDepth 100000 in
theorem cmpSol_any (A B C D : Option Addr) (n c d c2 d2 : Nat) (f s g t : List (List Int)) (v : Int) (w : World) (hn : n ≤ 1048576) (hf : Sq f n) (hs : Sq s n) (hg : Sq g n) (ht : Sq t n) (rf : Rd2 w A f) (rs : Rd2 w B s) (rg : Rd2 w C g) (rt : Rd2 w D t) (hv : cmpZ f s g t = v) :
    Calls Try.prog 82 #[.agg #[.slice A n c, .slice B n d], .agg #[.slice C n c2, .slice D n d2]] w fun e w' => e = .returned (.int .i64 v) ∧ Below w.heap.size w w' := by
  have Qf := hide hf
  have Qs := hide hs
  have Qg := hide hg
  have Qt := hide ht
  have Rf := hide rf
  have Rs := hide rs
  have Rg := hide rg
  have Rt := hide rt
  obtain ⟨v1, hv1⟩ : ∃ v, cmpT f g = v := ⟨_, rfl⟩
  obtain ⟨v2, hv2⟩ : ∃ v, cmpT s t = v := ⟨_, rfl⟩
  have HV1 := hide hv1
  have HV2 := hide hv2
  have HV : Hid ((if v1 = 0 then v2 else v1) = v) := hide (by rw [← hv, ← hv1, ← hv2]; rfl)
  clear hf hs hg ht rf rs rg rt hv hv1 hv2
  go_enter Try.func82, Try.ntmps82
  go_wp2_with fail
  refine wp_gen fun w1 hw1 => ?_
  have HF : Hid (FB w w1 (w1.heap.size - 1) [(w.heap.size + 1, 29, [.slice C n c2, .slice D n d2]), (w.heap.size, 29, [.slice A n c, .slice B n d])]) := hide (by
    have hb0 : Below w.heap.size w w1 := by rw [hw1]; exact ((Below.refl _ _).alloc (Nat.le_refl _) _).alloc (by simp) _
    have a1 : Blk w1 w.heap.size 29 [.slice A n c, .slice B n d] := by rw [hw1]; exact (Blk.new _ _ _).alloc _
    have a2 : Blk w1 (w.heap.size + 1) 29 [.slice C n c2, .slice D n d2] := by rw [hw1]; have h := (Blk.new (w.alloc (Obj.cells #[Value.slice A n c, Value.slice B n d] 29)) 29 [.slice C n c2, .slice D n d2]); simpa using h
    refine FB.of hb0 a1.lt ?_
    simp only [List.forall_mem_cons]
    exact ⟨a2, a1, fun q hq => absurd hq (List.not_mem_nil)⟩)
  clear hw1
  have tok1 : True := trivial
  have k0 := (HF.out.blk (b := w.heap.size) (t := 29) (cs := [.slice A n c, .slice B n d]) (by simp)).cell 0 _ rfl
  have k1 := (HF.out.blk (b := w.heap.size) (t := 29) (cs := [.slice A n c, .slice B n d]) (by simp)).cell 1 _ rfl
  have k2 := (HF.out.blk (b := w.heap.size + 1) (t := 29) (cs := [.slice C n c2, .slice D n d2]) (by simp)).cell 0 _ rfl
  have k3 := (HF.out.blk (b := w.heap.size + 1) (t := 29) (cs := [.slice C n c2, .slice D n d2]) (by simp)).cell 1 _ rfl
  go_region_held3 (fun w' => w'.cell? ⟨w.heap.size, 0, none⟩ = some (.slice A n c) ∧ w'.cell? ⟨w.heap.size, 1, none⟩ = some (.slice B n d) ∧ w'.cell? ⟨w.heap.size + 1, 0, none⟩ = some (.slice C n c2) ∧ w'.cell? ⟨w.heap.size + 1, 1, none⟩ = some (.slice D n d2)) (first | exact ⟨k0, k1, k2, k3⟩ | go_keep) (first | (go_at_call 114; have _t := tok1; clear _t tok1; go_must (refine calls_gen fun wc hwc => ?_; (first | have hbx := al_drew_below hwc | have hbx := al_below hwc | have hbx := drew_below hwc | have hbx := eq_below hwc); replace HF := hide (HF.out.later hbx); clear hwc hbx; refine (compareTables_any _ _ n _ _ f g v1 _ Qf.out.1 Qg.out.1 hn (fun i hi => Qf.out.2 i (by rw [Qf.out.1] at hi; exact hi)) (fun i hi => Qg.out.2 i (by rw [Qg.out.1] at hi; exact hi)) (Rf.out.later HF.out.below) (Rg.out.later HF.out.below) HV1.out).mono ?_; rintro e wd ⟨rfl, hqd⟩; have hbd := hqd.below wc.heap.size; replace HF := hide (HF.out.later hbd); clear hqd hbd; have k0 := (HF.out.blk (b := w.heap.size) (t := 29) (cs := [.slice A n c, .slice B n d]) (by simp)).cell 0 _ rfl; have k1 := (HF.out.blk (b := w.heap.size) (t := 29) (cs := [.slice A n c, .slice B n d]) (by simp)).cell 1 _ rfl; have k2 := (HF.out.blk (b := w.heap.size + 1) (t := 29) (cs := [.slice C n c2, .slice D n d2]) (by simp)).cell 0 _ rfl; have k3 := (HF.out.blk (b := w.heap.size + 1) (t := 29) (cs := [.slice C n c2, .slice D n d2]) (by simp)).cell 1 _ rfl)) | (go_at_call 114; go_must (refine calls_gen fun wc hwc => ?_; (first | have hbx := al_drew_below hwc | have hbx := al_below hwc | have hbx := drew_below hwc | have hbx := eq_below hwc); replace HF := hide (HF.out.later hbx); clear hwc hbx; refine (compareTables_any _ _ n _ _ s t v2 _ Qs.out.1 Qt.out.1 hn (fun i hi => Qs.out.2 i (by rw [Qs.out.1] at hi; exact hi)) (fun i hi => Qt.out.2 i (by rw [Qt.out.1] at hi; exact hi)) (Rs.out.later HF.out.below) (Rt.out.later HF.out.below) HV2.out).mono ?_; rintro e wd ⟨rfl, hqd⟩; have hbd := hqd.below wc.heap.size; replace HF := hide (HF.out.later hbd); clear hqd hbd; have k0 := (HF.out.blk (b := w.heap.size) (t := 29) (cs := [.slice A n c, .slice B n d]) (by simp)).cell 0 _ rfl; have k1 := (HF.out.blk (b := w.heap.size) (t := 29) (cs := [.slice A n c, .slice B n d]) (by simp)).cell 1 _ rfl; have k2 := (HF.out.blk (b := w.heap.size + 1) (t := 29) (cs := [.slice C n c2, .slice D n d2]) (by simp)).cell 0 _ rfl; have k3 := (HF.out.blk (b := w.heap.size + 1) (t := 29) (cs := [.slice C n c2, .slice D n d2]) (by simp)).cell 1 _ rfl)) | (go_at_call 113; go_must (refine calls_gen fun wc hwc => ?_; have h0 := or_cells (by first | exact .inl hwc | exact .inr hwc); (first | have hbx := al_drew_below hwc | have hbx := al_below hwc); replace HF := hide (HF.out.later hbx); clear hwc hbx; refine (or_any _ _ v1 v2 _ h0.1 h0.2).mono ?_; rintro e wd ⟨rfl, hqd⟩; have hbd := hqd.below wc.heap.size; replace HF := hide (HF.out.later hbd); clear hqd hbd h0; rw [HV.out]; have k0 := (HF.out.blk (b := w.heap.size) (t := 29) (cs := [.slice A n c, .slice B n d]) (by simp)).cell 0 _ rfl; have k1 := (HF.out.blk (b := w.heap.size) (t := 29) (cs := [.slice A n c, .slice B n d]) (by simp)).cell 1 _ rfl; have k2 := (HF.out.blk (b := w.heap.size + 1) (t := 29) (cs := [.slice C n c2, .slice D n d2]) (by simp)).cell 0 _ rfl; have k3 := (HF.out.blk (b := w.heap.size + 1) (t := 29) (cs := [.slice C n c2, .slice D n d2]) (by simp)).cell 1 _ rfl)))
  clear k0 k1 k2 k3
  go_wp2_with fail
  go_ret
  exact ⟨rfl, HF.out.below⟩
end Go.Proofs.Ytcmoeapgpljeiaa
namespace Go.Proofs.Ytcmoeapgpljeiaa
open Go Go.RowKit
set_option maxHeartbeats 2000000

theorem TabF.touch {ts t : TypeId} {lo hi : Nat} {w w' : World} {g : Nat} {G : Nat → Nat} {n : Nat} {f : Nat → Nat → Int} (h : TabF ts t w g G n f) (ht : Touch lo hi w w') (hg : g < lo ∨ hi ≤ g) (hG : ∀ i, i < n → (G i < lo ∨ hi ≤ G i)) : TabF ts t w' g G n f := h.far ht hg hG

theorem rfrom_any (lo mid hi g1 g2 : Nat) (G1 G2 : Nat → Nat) (n c1 c2 : Nat) (f1 f2 : Nat → Nat → Int) (A : Option Addr) (c : Nat) (f : List (List Int)) (B : Option Addr) (d : Nat) (s : List (List Int)) (D : Option Addr) (k : Nat) (p : List Int) (w0 w : World)
    (hn : f.length = n) (hm : s.length = n) (hpl : p.length = n) (hb : n ≤ 1048576) (hf : Tbl f) (hs : Tbl s) (hpin : ∀ x ∈ p, 0 ≤ x ∧ x < (n : Int)) (hfst : Rd2 w0 A f) (hsnd : Rd2 w0 B s) (hp : ∀ w3, Touch lo hi w w3 → Rd w3 D p) (hbe : Below w0.heap.size w0 w) (hlo : w0.heap.size ≤ lo)
    (h1 : TabF 25 2 w g1 G1 n f1) (h2 : TabF 25 2 w g2 G2 n f2) (r1 : lo ≤ g1 ∧ g1 < mid) (r2 : ∀ i, i < n → lo ≤ G1 i ∧ G1 i < mid) (r3 : mid ≤ g2 ∧ g2 < hi) (r4 : ∀ i, i < n → mid ≤ G2 i ∧ G2 i < hi) (r5 : hi ≤ w.heap.size) :
    Calls Try.prog 61 #[.agg #[.slice (some ⟨g1, 0, none⟩) n c1, .slice (some ⟨g2, 0, none⟩) n c2], .agg #[.slice A n c, .slice B n d], .slice D n k] w fun e w' => e = .returned (.tuple #[]) ∧ Touch lo hi w w' ∧ TabF 25 2 w' g1 G1 n (renTo f p n n f1) ∧ TabF 25 2 w' g2 G2 n (renTo s p n n f2) := by
  have HN := hide hn
  have HM := hide hm
  have HL := hide hpl
  have HF := hide hf
  have HS := hide hs
  have HPI := hide hpin
  have HP := hide hp
  have H1 := hide h1
  have H2 := hide h2
  have R2 := hide r2
  have R4 := hide r4
  clear hn hm hpl hf hs hpin hp h1 h2 r2 r4
  go_enter Try.func61, Try.ntmps61
  go_wp2_with fail
  refine calls_gen fun w1 hw1 => ?_
  have hb1 : Below w.heap.size w w1 := by rw [hw1]; exact ((Below.refl _ _).alloc (Nat.le_refl _) _).alloc (by simp) _
  have HK : Hid (Blk w1 w.heap.size 29 [.slice (some ⟨g1, 0, none⟩) n c1, .slice (some ⟨g2, 0, none⟩) n c2]) := hide (by rw [hw1]; exact (Blk.new _ _ _).alloc _)
  have HJ : Hid (Blk w1 (w.heap.size + 1) 29 [.slice A n c, .slice B n d]) := hide (by rw [hw1]; have h := Blk.new (w.alloc (Obj.cells #[Value.slice (some ⟨g1, 0, none⟩) n c1, Value.slice (some ⟨g2, 0, none⟩) n c2] 29)) 29 [.slice A n c, .slice B n d]; simpa using h)
  have HB1 := hide (hbe.trans (hb1.mono hbe.size))
  have HT1 : Hid (Touch lo hi w w1) := hide (Touch.of_below hb1)
  have HA1 := hide (H1.out.later hb1)
  have HA2 := hide (H2.out.later hb1)
  clear hw1 hb1
  refine (renameInto_gen g1 lo mid G1 n c1 f1 A c f D k p w0 w1 HN.out HL.out hb (fun i hi => HF.out.row_len HN.out (by have := HN.out; omega)) (HF.out.inr' HN.out) HPI.out hfst (fun w3 ht => HP.out w3 (HT1.out.trans (ht.wide (Nat.le_refl _) (by omega)))) HB1.out hlo R2.out HA1.out).mono ?_
  rintro e w2 ⟨rfl, ht2, htab2, hs2⟩
  have HT2 := hide (HT1.out.trans (ht2.wide (Nat.le_refl lo) (by omega : mid ≤ hi)))
  have HB2 := hide (ht2.below HB1.out HB1.out.size hlo)
  have HA1' := hide htab2
  have HA2' := hide (HA2.out.far ht2 (.inr r3.1) (fun i hi => .inr (R4.out i hi).1))
  have HK2 := hide (HK.out.touch ht2 (.inr (by omega)))
  have HJ2 := hide (HJ.out.touch ht2 (.inr (by omega)))
  have k0 := HK2.out.cell 1 _ rfl
  have k1 := HJ2.out.cell 1 _ rfl
  clear ht2 htab2 hs2
  go_wp2_with fail
  refine (renameInto_gen g2 mid hi G2 n c2 f2 B d s D k p w0 w2 HM.out HL.out hb (fun i hi => HS.out.row_len HM.out (by have := HM.out; omega)) (HS.out.inr' HM.out) HPI.out hsnd (fun w3 ht => HP.out w3 (HT2.out.trans (ht.wide (by omega) (Nat.le_refl _)))) HB2.out (by omega) R4.out HA2'.out).mono ?_
  rintro e w3 ⟨rfl, ht3, htab3, hs3⟩
  have HT3 := hide (HT2.out.trans (ht3.wide (by omega : lo ≤ mid) (Nat.le_refl hi)))
  have HA1'' := hide (HA1'.out.far ht3 (.inl r1.2) (fun i hi => .inl (R2.out i hi).2))
  have HA2'' := hide htab3
  clear ht3 htab3 hs3
  go_wp2_with fail
  go_end0
  exact ⟨rfl, HT3.out, HA1''.out, HA2''.out⟩

set_option maxRecDepth 100000 in
theorem rsI_any (A : Option Addr) (n c : Nat) (f : List (List Int)) (B : Option Addr) (m d : Nat) (s : List (List Int)) (D : Option Addr) (l e : Nat) (p : List Int) (zf zg : List (List Int)) (code : Int) (kz kw : Nat) (w : World) (hz : ZArg 1048576 w A n f B m s) (hl : p.length = l) (hlb : l ≤ 1048576) (hpr : Rd w D p) (hr : RsRes f s p zf zg code) (hk : ZSz 1048576 zf kz zg kw) :
    Calls Try.prog 23 #[.agg #[.slice A n c, .slice B m d], .slice D l e] w (ZPost 25 2 kz kw zf zg code w) := by
  have hnb := hz.sz.nb
  have HZ := hide hz
  have HL := hide hl
  have HFL := hide hz.sz.fl
  rcases hr with ⟨hp, hq, rfl, rfl, rfl⟩ | ⟨hp, hq, rfl, rfl, rfl⟩ | ⟨hp, rfl, rfl, rfl⟩
  · have HP := hide hp
    have HQ := hide hq.1
    have h12 := hz.small hp
    obtain rfl := hz.same hp
    obtain rfl : l = m := by rw [← hl, hq.2]; exact HFL.out
    obtain rfl : kz = l := by rw [← hk.fl, renL_length, HFL.out]
    obtain rfl : kw = kz := by rw [← hk.sl, renL_length]; exact hz.sz.sl
    have HSL := hide hz.sz.sl
    have HPI : Hid (∀ x ∈ p, 0 ≤ x ∧ x < (kw : Int)) := hide (by have := hq.1.2.2.1; rw [hl] at this; exact this)
    have hne : ((kw : Int) != (kw : Int)) = false := by simp
    clear hp hq hz hk hl
    go_enter Try.func23, Try.ntmps23
    go_wp2_with fail
    refine calls_gen fun w0 hw0 => ?_
    have hb0 : Below w.heap.size w w0 := by rw [hw0]; exact ((Below.refl _ _).alloc (Nat.le_refl _) _).alloc (by simp) _
    have HB := hide hb0
    have HK : Hid (Blk w0 w.heap.size 29 [.slice A kw c, .slice B kw d]) := hide (by rw [hw0]; exact (Blk.new _ _ _).alloc _)
    have HR : Hid (Blk w0 (w.heap.size + 1) 29 [.slice none 0 0, .slice none 0 0]) := hide (by rw [hw0]; have h := Blk.new (w.alloc (Obj.cells #[Value.slice A kw c, Value.slice B kw d] 29)) 29 [.slice none 0 0, .slice none 0 0]; simpa using h)
    clear hw0 hb0
    refine (mapI_any _ _ _ f _ _ _ s true _ (HZ.out.later HB.out) (by simp [HP.out])).mono ?_
    rintro _ wd ⟨rfl, hbd⟩
    replace HK := hide (HK.out.later hbd)
    replace HR := hide (HR.out.later hbd)
    have HB' := hide (HB.out.trans (hbd.mono HB.out.size))
    replace HB := HB'
    clear HB' hbd
    have k0 := HK.out.cell 0 _ rfl
    have k1 := HK.out.cell 1 _ rfl
    go_wp2_with fail
    clear k0 k1
    refine (isPerm_any _ _ _ p true _ HL.out (by omega) (hpr.later HB.out) (by simp [HQ.out])).mono ?_
    rintro _ wd ⟨rfl, hbd⟩
    replace HK := hide (HK.out.later hbd)
    replace HR := hide (HR.out.later hbd)
    have HB' := hide (HB.out.trans (hbd.mono HB.out.size))
    replace HB := HB'
    clear HB' hbd
    have k0 := HK.out.cell 0 _ rfl
    have k1 := HK.out.cell 1 _ rfl
    go_wp2_with fail
    clear k0 k1
    refine (newTable_any kw _ (by omega)).mono ?_
    rintro _ w1 ⟨rfl, hb1, ht1, hs1⟩
    have HD1 := hide hb1
    have HB1 := hide (HB.out.trans (hb1.mono HB.out.size))
    have HK1 := hide (HK.out.later hb1)
    have HR1 := hide (HR.out.later hb1)
    have HT1 := hide ht1
    have Z1 := hide hs1
    have k0 := HK1.out.cell 0 _ rfl
    have k1 := HK1.out.cell 1 _ rfl
    clear hb1 ht1 hs1
    go_wp2_with fail
    clear k0 k1
    refine (newTable_any kw _ (by omega)).mono ?_
    rintro _ w2 ⟨rfl, hb2, ht2, hs2⟩
    have HD2 := hide (HD1.out.trans (hb2.mono HD1.out.size))
    have HB2 := hide (HB1.out.trans (hb2.mono HB1.out.size))
    have HK2 := hide (HK1.out.later hb2)
    have HR2 := hide (HR1.out.later hb2)
    have HT12 := hide (HT1.out.later hb2)
    have HT2 := hide ht2
    have Z2 := hide hs2
    have k0 := HK2.out.cell 0 _ rfl
    have k1 := HK2.out.cell 1 _ rfl
    have k2 := fun o => (HK2.out.alloc o).cell 0 _ rfl
    have k3 := fun o => (HK2.out.alloc o).cell 1 _ rfl
    clear hb2 ht2 hs2
    go_wp2_with fail
    clear k0 k1 k2 k3
    refine calls_gen fun w3 hw3 => ?_
    have hb3 : Below w2.heap.size w2 w3 := by rw [hw3]; exact (Below.refl _ _).alloc (Nat.le_refl _) _
    have HD3 := hide (HD2.out.trans (hb3.mono HD2.out.size))
    have HB3 := hide (HB2.out.trans (hb3.mono HB2.out.size))
    have HS3 : Hid (Blk w3 w2.heap.size 29 [.slice (some ⟨wd.heap.size, 0, none⟩) kw kw, .slice (some ⟨w1.heap.size, 0, none⟩) kw kw]) := hide (by rw [hw3]; exact Blk.new _ _ _)
    have HR3 := hide (HR2.out.later hb3)
    have HT13 := hide (HT12.out.later hb3)
    have HT23 := hide (HT2.out.later hb3)
    have Z3 : Hid (w3.heap.size = w2.heap.size + 1) := hide (by rw [hw3]; simp)
    have hrl : w.heap.size + 1 < wd.heap.size := HR.out.lt
    clear hw3 hb3
    refine (rfrom_any wd.heap.size w1.heap.size w2.heap.size _ _ _ _ kw _ _ _ _ _ _ f _ _ s _ _ p wd w3 HFL.out HSL.out HL.out (by omega) HP.out.1 HP.out.2.1 HPI.out (HZ.out.later HB.out).fst (HZ.out.later HB.out).snd (fun w4 ht => ?_) ?_ (Nat.le_refl _) HT13.out HT23.out (by have z1 := Z1.out; omega) (fun i hi => by have z1 := Z1.out; omega) (by have z2 := Z2.out; omega) (fun i hi => by have z2 := Z2.out; omega) (by have z3 := Z3.out; omega)).mono ?_
    · exact hpr.later (ht.below HB3.out HB3.out.size HB.out.size)
    · exact HD3.out
    rintro _ w4 ⟨rfl, ht4, hta4, htb4⟩
    have HB4 := hide (ht4.below HB3.out HB3.out.size HB.out.size)
    have HS4 := hide (HS3.out.touch ht4 (.inr (Nat.le_refl _)))
    have HR4 := hide (HR3.out.touch ht4 (.inl hrl))
    have HTA := hide hta4
    have HTB := hide htb4
    have S4 := ht4.size
    have k0 := HS4.out.cell 0 _ rfl
    have k1 := HS4.out.cell 1 _ rfl
    have k2 := HR4.out.cell 0 _ rfl
    have k3 := HR4.out.cell 1 _ rfl
    have k4 := HR4.out.frozen 0
    have k5 := HR4.out.frozen 1
    clear ht4 hta4 htb4
    go_wp2_with fail
    refine bp_gen fun wf hwf => ?_
    have z1 := Z1.out
    have z2 := Z2.out
    have z3 := Z3.out
    have ho : ObjZ 25 2 wd.heap.size w4.heap.size w4 (some ⟨wd.heap.size, 0, none⟩) (renL f p) (some ⟨w1.heap.size, 0, none⟩) (renL s p) := by
      refine ⟨w1.heap.size, by omega, by omega, ?_, ?_⟩
      · unfold renL
        rw [HFL.out]
        exact HTA.out.obj (Nat.le_refl _) (by omega) (fun i hi => by omega)
      · unfold renL
        rw [HSL.out]
        exact HTB.out.obj (Nat.le_refl _) (by omega) (fun i hi => by omega)
    obtain ⟨q0, q1, hbf, hof⟩ := zend hwf HR4.out (by omega) hrl HB4.out HB.out.size ho
    clear hwf k0 k1 k2 k3 k4 k5
    exact bodyPost_ret (v := .tuple #[.agg #[.slice (some ⟨wd.heap.size, 0, none⟩) kw kw, .slice (some ⟨w1.heap.size, 0, none⟩) kw kw], .int .i64 0]) (by simp [results, Try.results23, go_sem, q0, q1]) rfl ⟨_, _, _, _, rfl, hbf, hof⟩
  · have HP := hide hp
    by_cases h1 : Prm p
    · have HQ := hide h1
      have hne : ((l : Int) != (n : Int)) = true := by have h2 : ¬ p.length = f.length := fun h => hq ⟨h1, h⟩; have := HFL.out; simp; omega
      clear hp hq hz hl h1
      obtain rfl : kz = 0 := by simpa using hk.fl.symm
      obtain rfl : kw = 0 := by simpa using hk.sl.symm
      clear hk
      go_enter Try.func23, Try.ntmps23
      go_wp2_with fail
      refine calls_gen fun w0 hw0 => ?_
      have hb0 : Below w.heap.size w w0 := by rw [hw0]; exact ((Below.refl _ _).alloc (Nat.le_refl _) _).alloc (by simp) _
      have HB := hide hb0
      have HK : Hid (Blk w0 w.heap.size 29 [.slice A n c, .slice B m d]) := hide (by rw [hw0]; exact (Blk.new _ _ _).alloc _)
      have HR : Hid (Blk w0 (w.heap.size + 1) 29 [.slice none 0 0, .slice none 0 0]) := hide (by rw [hw0]; have h := Blk.new (w.alloc (Obj.cells #[Value.slice A n c, Value.slice B m d] 29)) 29 [.slice none 0 0, .slice none 0 0]; simpa using h)
      clear hw0 hb0
      refine (mapI_any _ _ _ f _ _ _ s true _ (HZ.out.later HB.out) (by simp [HP.out])).mono ?_
      rintro _ wd ⟨rfl, hbd⟩
      replace HK := hide (HK.out.later hbd)
      replace HR := hide (HR.out.later hbd)
      have HB' := hide (HB.out.trans (hbd.mono HB.out.size))
      replace HB := HB'
      clear HB' hbd
      have k0 := HK.out.cell 0 _ rfl
      have k1 := HK.out.cell 1 _ rfl
      go_wp2_with fail
      clear k0 k1
      refine (isPerm_any _ _ _ p true _ HL.out (by omega) (hpr.later HB.out) (by simp [HQ.out])).mono ?_
      rintro _ wd ⟨rfl, hbd⟩
      replace HK := hide (HK.out.later hbd)
      replace HR := hide (HR.out.later hbd)
      have HB' := hide (HB.out.trans (hbd.mono HB.out.size))
      replace HB := HB'
      clear HB' hbd
      have k0 := HK.out.cell 0 _ rfl
      have k1 := HK.out.cell 1 _ rfl
      have k2 := HR.out.cell 0 _ rfl
      have k3 := HR.out.cell 1 _ rfl
      have k4 := HR.out.frozen 0
      have k5 := HR.out.frozen 1
      go_wp2_with fail
      refine bp_gen fun wf hwf => ?_
      obtain ⟨q0, q1, hbf, hof⟩ := zend (ts := 25) (t := 2) (w2 := wd) hwf HR.out (by omega) HR.out.lt HB.out HB.out.size (ObjZ.empty (Nat.le_refl _))
      clear hwf k0 k1 k2 k3 k4 k5
      exact bodyPost_ret (v := .tuple #[.agg #[.slice none 0 0, .slice none 0 0], .int .i64 2]) (by simp [results, Try.results23, go_sem, q0, q1]) rfl ⟨_, _, _, _, rfl, hbf, hof⟩
    · have HQ := hide h1
      clear hp hq hz hl h1
      obtain rfl : kz = 0 := by simpa using hk.fl.symm
      obtain rfl : kw = 0 := by simpa using hk.sl.symm
      clear hk
      go_enter Try.func23, Try.ntmps23
      go_wp2_with fail
      refine calls_gen fun w0 hw0 => ?_
      have hb0 : Below w.heap.size w w0 := by rw [hw0]; exact ((Below.refl _ _).alloc (Nat.le_refl _) _).alloc (by simp) _
      have HB := hide hb0
      have HK : Hid (Blk w0 w.heap.size 29 [.slice A n c, .slice B m d]) := hide (by rw [hw0]; exact (Blk.new _ _ _).alloc _)
      have HR : Hid (Blk w0 (w.heap.size + 1) 29 [.slice none 0 0, .slice none 0 0]) := hide (by rw [hw0]; have h := Blk.new (w.alloc (Obj.cells #[Value.slice A n c, Value.slice B m d] 29)) 29 [.slice none 0 0, .slice none 0 0]; simpa using h)
      clear hw0 hb0
      refine (mapI_any _ _ _ f _ _ _ s true _ (HZ.out.later HB.out) (by simp [HP.out])).mono ?_
      rintro _ wd ⟨rfl, hbd⟩
      replace HK := hide (HK.out.later hbd)
      replace HR := hide (HR.out.later hbd)
      have HB' := hide (HB.out.trans (hbd.mono HB.out.size))
      replace HB := HB'
      clear HB' hbd
      have k0 := HK.out.cell 0 _ rfl
      have k1 := HK.out.cell 1 _ rfl
      go_wp2_with fail
      clear k0 k1
      refine (isPerm_any _ _ _ p false _ HL.out (by omega) (hpr.later HB.out) (by simp [HQ.out])).mono ?_
      rintro _ wd ⟨rfl, hbd⟩
      replace HK := hide (HK.out.later hbd)
      replace HR := hide (HR.out.later hbd)
      have HB' := hide (HB.out.trans (hbd.mono HB.out.size))
      replace HB := HB'
      clear HB' hbd
      have k0 := HK.out.cell 0 _ rfl
      have k1 := HK.out.cell 1 _ rfl
      have k2 := HR.out.cell 0 _ rfl
      have k3 := HR.out.cell 1 _ rfl
      have k4 := HR.out.frozen 0
      have k5 := HR.out.frozen 1
      go_wp2_with fail
      refine bp_gen fun wf hwf => ?_
      obtain ⟨q0, q1, hbf, hof⟩ := zend (ts := 25) (t := 2) (w2 := wd) hwf HR.out (by omega) HR.out.lt HB.out HB.out.size (ObjZ.empty (Nat.le_refl _))
      clear hwf k0 k1 k2 k3 k4 k5
      exact bodyPost_ret (v := .tuple #[.agg #[.slice none 0 0, .slice none 0 0], .int .i64 2]) (by simp [results, Try.results23, go_sem, q0, q1]) rfl ⟨_, _, _, _, rfl, hbf, hof⟩
  · have HP := hide hp
    clear hp hz hl
    obtain rfl : kz = 0 := by simpa using hk.fl.symm
    obtain rfl : kw = 0 := by simpa using hk.sl.symm
    clear hk
    go_enter Try.func23, Try.ntmps23
    go_wp2_with fail
    refine calls_gen fun w0 hw0 => ?_
    have hb0 : Below w.heap.size w w0 := by rw [hw0]; exact ((Below.refl _ _).alloc (Nat.le_refl _) _).alloc (by simp) _
    have HB := hide hb0
    have HK : Hid (Blk w0 w.heap.size 29 [.slice A n c, .slice B m d]) := hide (by rw [hw0]; exact (Blk.new _ _ _).alloc _)
    have HR : Hid (Blk w0 (w.heap.size + 1) 29 [.slice none 0 0, .slice none 0 0]) := hide (by rw [hw0]; have h := Blk.new (w.alloc (Obj.cells #[Value.slice A n c, Value.slice B m d] 29)) 29 [.slice none 0 0, .slice none 0 0]; simpa using h)
    clear hw0 hb0
    refine (mapI_any _ _ _ f _ _ _ s false _ (HZ.out.later HB.out) (by simp [HP.out])).mono ?_
    rintro _ wd ⟨rfl, hbd⟩
    replace HK := hide (HK.out.later hbd)
    replace HR := hide (HR.out.later hbd)
    have HB' := hide (HB.out.trans (hbd.mono HB.out.size))
    replace HB := HB'
    clear HB' hbd
    have k0 := HK.out.cell 0 _ rfl
    have k1 := HK.out.cell 1 _ rfl
    have k2 := HR.out.cell 0 _ rfl
    have k3 := HR.out.cell 1 _ rfl
    have k4 := HR.out.frozen 0
    have k5 := HR.out.frozen 1
    go_wp2_with fail
    refine bp_gen fun wf hwf => ?_
    obtain ⟨q0, q1, hbf, hof⟩ := zend (ts := 25) (t := 2) (w2 := wd) hwf HR.out (by omega) HR.out.lt HB.out HB.out.size (ObjZ.empty (Nat.le_refl _))
    clear hwf k0 k1 k2 k3 k4 k5
    exact bodyPost_ret (v := .tuple #[.agg #[.slice none 0 0, .slice none 0 0], .int .i64 1]) (by simp [results, Try.results23, go_sem, q0, q1]) rfl ⟨_, _, _, _, rfl, hbf, hof⟩
end Go.Proofs.Ytcmoeapgpljeiaa
namespace Go.Proofs.Ytcmoeapgpljeiaa
open Go Go.RowKit
set_option maxHeartbeats 2000000

theorem reverse_any (g s m c : Nat) (q : List Int) (w : World) (hm : 1 ≤ m) (hl : q.length = s + m) (hb : m ≤ 1048576) (hq : Row 2 w g q) :
    Calls Try.prog 112 #[.slice (some ⟨g, s, none⟩) m c] w fun e w' => e = .returned (.tuple #[]) ∧ Only (some ⟨g, 0, none⟩) w w' ∧ Row 2 w' g (q.take s ++ (q.drop s).reverse) := by
  have HQ := hide hq
  have HL := hide hl
  clear hq hl
  go_enter Try.func112, Try.ntmps112
  go_wp2_with fail
  go_loopw [2, 3] (fun i j wr => ∃ k : Nat, k + k ≤ m ∧ i = .int .i64 k ∧ j = .int .i64 ((m : Int) - 1 - (k : Int)) ∧ Only (some ⟨g, 0, none⟩) w wr ∧ Row 2 wr g (revTo q s k)) (fun i _ _ => m - (intOf i).toNat)
  case atStart => exact ⟨0, by omega, rfl, by simp, Only.quiet (Quiet.refl _), HQ.out⟩
  case round =>
    obtain ⟨k, hk, rfl, rfl, ho, hrow⟩ := hrel
    have HO := hide ho
    have HR := hide hrow
    clear ho hrow
    by_cases hlt : k < m - 1 - k
    · obtain ⟨j, hj⟩ : ∃ j : Nat, j = m - 1 - k := ⟨_, rfl⟩
      have hji : (m : Int) - 1 - (k : Int) = (j : Int) := by omega
      have hkj : k < j := by omega
      have hjm : j < m := by omega
      rw [hji]
      have HJ := hide hj
      have hlen := revTo_length q s k
      have h1 := HR.out.cell (i := s + k) (by have := HL.out; omega)
      have h2 := HR.out.cell (i := s + j) (by have := HL.out; omega)
      obtain ⟨x, hx⟩ : ∃ x, (revTo q s k).getD (s + k) 0 = x := ⟨_, rfl⟩
      obtain ⟨y, hy⟩ : ∃ y, (revTo q s k).getD (s + j) 0 = y := ⟨_, rfl⟩
      rw [hx] at h1
      rw [hy] at h2
      have HX := hide hx
      have HY := hide hy
      have h3 := HR.out.frozen (s + k)
      have h4 := HR.out.frozen (s + j)
      clear hj hji hlen hx hy
      have hkjz : (k : Int) < (j : Int) := by omega
      have hkmz : (k : Int) < (m : Int) := by omega
      have hjmz : (j : Int) < (m : Int) := by omega
      go_wp2_with fail
      obtain ⟨y', hy'⟩ := cell?_setCell_some (w := wr.drew) (p := ⟨g, s + k, none⟩) (x := Value.int IntKind.i64 y) (q := ⟨g, s + j, none⟩) (v := Value.int IntKind.i64 y) (by go_simp)
      go_region
      go_wp2_with fail
      go_roundw
      case rel =>
        have hs1 := (HR.out.set (s + k) y).set (s + j) x
        have e : ((revTo q s k).set (s + k) y).set (s + j) x = revTo q s (k + 1) := by
          have hl := HL.out
          have hj := HJ.out
          have e2 : q.length - 1 - k = s + j := by omega
          simp only [revTo]
          rw [e2, HX.out, HY.out]
        rw [e] at hs1
        refine ⟨k + 1, by omega, by go_num, by have := HJ.out; go_num, ?_, hs1⟩
        have h1 := HO.out
        exact ⟨h1.os, h1.tape, h1.output, by have := h1.size; simpa [World.setCell, World.drew] using this, fun i hi hne => (Below.heap_setCell _ _ _ _ (fun e => hne (by rw [e]; rfl))).trans ((Below.heap_setCell _ _ _ _ (fun e => hne (by rw [e]; rfl))).trans (h1.block i hi hne))⟩
      case measure => simp [intOf]; omega
    · have hgez : ¬ ((k : Int) < (m : Int) - 1 - (k : Int)) := by omega
      go_wp2_with fail
      go_end0
      have hl := HL.out
      rw [← revTo_done q s k (by omega) (by omega) (by omega)]
      exact ⟨rfl, HO.out, HR.out⟩

/-- What advance does to the list in block g. -/
def AdvPost (t : TypeId) (g : Nat) (p : List Int) (w : World) (e : Ending) (w' : World) : Prop :=
  (adv p = none ∧ e = .returned (.bool false) ∧ Only (some ⟨g, 0, none⟩) w w' ∧ Row t w' g p) ∨ (∃ q, adv p = some q ∧ e = .returned (.bool true) ∧ Only (some ⟨g, 0, none⟩) w w' ∧ Row t w' g q)

theorem only_drewN {A : Option Addr} {w w' : World} (h : Only A w w') (q : Nat) : Only A w (w'.drewN q) := ⟨h.os, h.tape, h.output, h.size, h.block⟩
theorem only_trans {A : Option Addr} {a b c : World} (h : Only A a b) (k : Only A b c) : Only A a c :=
  ⟨k.os.trans h.os, k.tape.trans h.tape, k.output.trans h.output, Nat.le_trans h.size k.size, fun i hi hne => (k.block i (Nat.lt_of_lt_of_le hi h.size) hne).trans (h.block i hi hne)⟩

theorem advance_any (g n c : Nat) (p : List Int) (w : World) (hn : p.length = n) (h1 : 1 ≤ n) (hnc : n ≤ c) (hb : n ≤ 1048576) (hp : Row 2 w g p) :
    Calls Try.prog 81 #[.slice (some ⟨g, 0, none⟩) n c] w (AdvPost 2 g p w) := by
  have HN := hide hn
  have HP := hide hp
  have HA : Hid (adv p = match scanI p (n - 1) with | none => none | some i => some (advAt p i (scanJ p (p.getD i 0) (n - 1)))) := hide (by rw [← hn]; rfl)
  clear hn hp
  go_enter Try.func81, Try.ntmps81
  go_wp2_with fail
  go_loopw [3] (fun i wr => ∃ k : Nat, k ≤ n - 1 ∧ i = .int .i64 ((k : Int) - 1) ∧ Only (some ⟨g, 0, none⟩) w wr ∧ Row 2 wr g p ∧ scanI p (n - 1) = scanI p k) (fun i _ => (intOf i + 1).toNat)
  case atStart => exact ⟨n - 1, Nat.le_refl _, by congr 1; omega, Only.quiet (Quiet.refl _), HP.out, rfl⟩
  case round =>
    obtain ⟨k, hk, rfl, ho, hrow, hs⟩ := hrel
    have HO := hide ho
    have HR := hide hrow
    have HS := hide hs
    clear ho hrow hs
    cases k with
    | zero =>
      rw [show (((0 : Nat) : Int) - 1) = -1 from rfl]
      have hd : decide ((0 : Int) ≤ -1) = false := by decide
      go_wp2_with fail
      go_quiet (fail)
      go_wp2_with fail
      go_ret
      have h := HA.out
      rw [HS.out] at h
      exact .inl ⟨h, rfl, only_drewN HO.out _, HR.out⟩
    | succ i =>
      have ei : ((i + 1 : Nat) : Int) - 1 = (i : Int) := by omega
      rw [ei]
      have h1 := HR.out.cell (i := i) (by have := HN.out; omega)
      have h2 := HR.out.cell (i := i + 1) (by have := HN.out; omega)
      obtain ⟨x, hx⟩ : ∃ x, p.getD i 0 = x := ⟨_, rfl⟩
      obtain ⟨y, hy⟩ : ∃ y, p.getD (i + 1) 0 = y := ⟨_, rfl⟩
      rw [hx] at h1
      rw [hy] at h2
      have HX := hide hx
      have HY := hide hy
      clear ei hx hy
      have hinz : (i : Int) < n := by omega
      have hinz2 : (i : Int) + 1 < n := by omega
      by_cases hxy : y < x
      · go_wp2_with fail
        go_quiet (fail)
        go_wp2_with fail
        go_roundw
        case rel =>
          refine ⟨i, by omega, rfl, only_drewN HO.out _, HR.out, ?_⟩
          rw [HS.out, scanI, HX.out, HY.out, if_pos hxy]
        case measure => simp [intOf]
      · have hs2 : scanI p (n - 1) = some i := by rw [HS.out, scanI, HX.out, HY.out, if_neg hxy]
        have HS2 := hide hs2
        have hd : decide (y < x) = false := by simpa using hxy
        have HXY := hide hxy
        clear hs2 hxy
        go_wp2_with fail
        go_quiet (fail)
        go_wp2_with fail
        obtain ⟨wo, rfl⟩ : ∃ wo : World, wo = wr := ⟨_, rfl⟩
        go_loopw [4] (fun j wr => ∃ k : Nat, k ≤ n - 1 ∧ i + 1 ≤ k ∧ j = .int .i64 k ∧ Only (some ⟨g, 0, none⟩) w wr ∧ Row 2 wr g p ∧ scanJ p x (n - 1) = scanJ p x k) (fun j _ => (intOf j).toNat)
        case atStart => exact ⟨n - 1, Nat.le_refl _, by omega, by congr 1; omega, only_drewN HO.out _, HR.out, rfl⟩
        case round =>
          obtain ⟨k, hk1, hk2, rfl, ho2, hrow2, hj⟩ := hrel
          have HO2 := hide ho2
          have HR2 := hide hrow2
          have HJ := hide hj
          clear ho2 hrow2 hj h1 h2
          have h1 : wr.cell? ⟨g, i, none⟩ = some (.int .i64 x) := by rw [← HX.out]; exact HR2.out.cell (i := i) (by have := HN.out; omega)
          have h2 := HR2.out.cell (i := k) (by have := HN.out; omega)
          obtain ⟨z, hz⟩ : ∃ z, p.getD k 0 = z := ⟨_, rfl⟩
          rw [hz] at h2
          have HZ := hide hz
          clear hz
          have hkz : (k : Int) < n := by omega
          obtain ⟨k', rfl⟩ : ∃ k', k = k' + 1 := ⟨k - 1, by omega⟩
          by_cases hzx : z < x
          · have hne : k' ≠ i := fun e => by
              subst e
              have e2 := HZ.out
              rw [HY.out] at e2
              subst e2
              have := HXY.out
              omega
            have hki : i + 1 ≤ k' := by omega
            have HZX := hide hzx
            clear hne
            go_wp2_with fail
            go_quiet (fail)
            go_wp2_with fail
            go_roundw
            case rel =>
              refine ⟨k', by omega, hki, by first | rfl | (congr 1; omega), only_drewN HO2.out _, HR2.out, ?_⟩
              rw [HJ.out, scanJ, HZ.out, if_pos HZX.out]
            case measure => simp [intOf]
          · have hd2 : decide (z < x) = false := by simpa using hzx
            have hj2 : scanJ p x (n - 1) = k' + 1 := by rw [HJ.out, scanJ, HZ.out, if_neg hzx]
            have HJ2 := hide hj2
            clear hj2 hzx
            go_wp2_with fail
            go_quiet (fail)
            go_wp2_with fail
            have f1 := HR2.out.frozen i
            have f2 := HR2.out.frozen (k' + 1)
            have hci : ¬ c = i + 1 := by omega
            have hic : (i : Int) + 1 ≤ (n : Int) := by omega
            have hkz2 : (k' : Int) + 1 < n := by omega
            have hik : i < k' + 1 := by omega
            have hv : ((wr.drewN (nq + 1)).setCell ⟨g, i, none⟩ (Value.int IntKind.i64 z)).cell? ⟨g, k' + 1, none⟩ = some (.int .i64 z) := by
              rw [World.cell?_setCell_other _ _ _ _ (fun e => by have := congrArg Addr.off e; simp at this; omega)]
              exact h2
            go_region
            go_wp2_with fail
            have hrow : Row 2 (((wr.drewN (nq + 1)).setCell ⟨g, i, none⟩ (Value.int IntKind.i64 z)).setCell ⟨g, k' + 1, none⟩ (Value.int IntKind.i64 x)) g ((p.set i z).set (k' + 1) x) := ((show Row 2 (wr.drewN (nq + 1)) g p from HR2.out).set i z).set (k' + 1) x
            have HRW := hide hrow
            clear hrow hv
            refine (reverse_any g (i + 1) (n - (i + 1)) (c - (i + 1)) ((p.set i z).set (k' + 1) x) _ (by omega) (by have := HN.out; simp; omega) (by omega) HRW.out).mono ?_
            rintro e w3 ⟨rfl, ho3, hr3⟩
            have HO3 := hide ho3
            have HR3 := hide hr3
            clear ho3 hr3
            go_wp2_with fail
            go_ret
            refine .inr ⟨_, ?_, rfl, ?_, HR3.out⟩
            · have h := HA.out
              rw [HS2.out] at h
              simp only at h
              rw [h, HX.out, HJ2.out]
              unfold advAt
              rw [HX.out, HZ.out]
            · refine only_trans ?_ HO3.out
              have h1 := only_drewN HO2.out (nq + 1)
              exact ⟨h1.os, h1.tape, h1.output, by have := h1.size; simpa [World.setCell] using this, fun a ha hne => (Below.heap_setCell _ _ _ _ (fun e => hne (by rw [e]; rfl))).trans ((Below.heap_setCell _ _ _ _ (fun e => hne (by rw [e]; rfl))).trans (h1.block a ha hne))⟩
end Go.Proofs.Ytcmoeapgpljeiaa
namespace Go.Proofs.Ytcmoeapgpljeiaa
open Go Go.RowKit
set_option maxHeartbeats 1000000

theorem idInfo : (Try.prog.info? 2).map (fun i => (i.zero, i.size, i.bytes)) = some (some (.int .i64 0), 1, 8) := by kernel_rfl
def unitL (n : Nat) : List Int := (List.range n).map fun (x : Nat) => Int.ofNat x
theorem unitL_length (n : Nat) : (unitL n).length = n := by simp [unitL]
theorem unitL_getD (n k : Nat) (h : k < n) : (unitL n).getD k 0 = (k : Int) := by simp [unitL, h]

theorem identityOf_any (n : Nat) (w : World) (hb : n ≤ 1048576) :
    Calls Try.prog 80 #[.int .i64 n] w fun e w' => e = .returned (.slice (some ⟨w.heap.size, 0, none⟩) n n) ∧ Below w.heap.size w w' ∧ Row 2 w' w.heap.size (unitL n) ∧ w'.heap.size = w.heap.size + 1 := by
  have hmk := run_make_row' (P := Try.prog) 74 2 (.int .i64 0) 8 Try.underlying74 idInfo rfl .i64 .i64 n (by omega) (by omega)
  go_enter Try.func80, Try.ntmps80
  go_wp2_with fail
  clear hmk
  go_loopw [9] (fun i wr => ∃ k : Nat, k ≤ n ∧ i = .int .i64 k ∧ Below w.heap.size w wr ∧ Row 2 wr w.heap.size ((unitL n).take k ++ List.replicate (n - k) 0) ∧ wr.heap.size = w.heap.size + 1) (fun i _ => n - (intOf i).toNat)
  case atStart => exact ⟨0, Nat.zero_le _, rfl, (Below.refl _ _).alloc (Nat.le_refl _) _, by simpa using Row.made 2 w n, by simp⟩
  case round =>
    obtain ⟨k, hk, rfl, hbe, hrow, hsz⟩ := hrel
    have HB := hide hbe
    have HROW := hide hrow
    have HSZ := hide hsz
    clear hbe hrow hsz
    have HU : Hid ((unitL n).length = n) := hide (unitL_length n)
    by_cases hlt : k < n
    · have h2 := HROW.out.cell (i := k) (by have := HU.out; simp; omega)
      have h3 := HROW.out.frozen k
      have hltz : (k : Int) < n := by omega
      go_wp2_with fail
      go_roundw
      case rel =>
        have hst := HROW.out.set k ((unitL n).getD k 0)
        rw [fill_step (unitL n) n k HU.out hlt, unitL_getD n k hlt] at hst
        exact ⟨k + 1, by omega, by go_num, HB.out.setCell (p := ⟨w.heap.size, k, none⟩) (Nat.le_refl _) _, hst, by have := HSZ.out; simpa [World.setCell] using this⟩
      case measure => simp [intOf]; omega
    · have hkn : k = n := by omega
      subst hkn
      go_wp2_with fail
      go_ret
      have h := HROW.out
      have hz := HU.out
      rw [Nat.sub_self, List.replicate_zero, List.append_nil, List.take_of_length_le (by omega)] at h
      exact ⟨rfl, HB.out, h, HSZ.out⟩
end Go.Proofs.Ytcmoeapgpljeiaa
namespace Go.Proofs.Ytcmoeapgpljeiaa
open Go Go.RowKit
set_option maxHeartbeats 1000000

theorem size_any (A : Option Addr) (n c : Nat) (B : Option Addr) (m d : Nat) (w : World) (_hn : n ≤ 1048576) :
    Calls Try.prog 67 #[.agg #[.slice A n c, .slice B m d]] w fun e w' => e = .returned (.int .i64 n) ∧ Below w.heap.size w w' := by
  have HB0 := hide ((Below.refl _ w).alloc (Nat.le_refl _) (Obj.cells #[Value.slice A n c, Value.slice B m d] 29))
  go_enter Try.func67, Try.ntmps67
  go_wp2_with fail
  go_ret
  exact ⟨rfl, HB0.out⟩
end Go.Proofs.Ytcmoeapgpljeiaa
namespace Go.Proofs.Ytcmoeapgpljeiaa
open Go Go.RowKit
set_option maxHeartbeats 4000000

/-- A pair of tables in the blocks from lo to hi, these between B and P. -/
def BufZ (ts t : TypeId) (B P n : Nat) (wr : World) (g1 g2 lo hi : Nat) (f1 f2 : Nat → Nat → Int) : Prop :=
  B ≤ lo ∧ hi ≤ P ∧ ∃ (mid : Nat) (G1 G2 : Nat → Nat), (lo ≤ g1 ∧ g1 < mid) ∧ (∀ i, i < n → lo ≤ G1 i ∧ G1 i < mid) ∧ (mid ≤ g2 ∧ g2 < hi) ∧ (∀ i, i < n → mid ≤ G2 i ∧ G2 i < hi) ∧ TabF ts t wr g1 G1 n f1 ∧ TabF ts t wr g2 G2 n f2
theorem BufZ.far {ts t : TypeId} {B P n : Nat} {w w' : World} {g1 g2 lo hi l h : Nat} {f1 f2 : Nat → Nat → Int} (b : BufZ ts t B P n w g1 g2 lo hi f1 f2) (ht : Touch l h w w') (hs : hi ≤ l ∨ h ≤ lo) : BufZ ts t B P n w' g1 g2 lo hi f1 f2 := by
  obtain ⟨h1, h2, mid, G1, G2, a1, a2, a3, a4, t1, t2⟩ := b
  exact ⟨h1, h2, mid, G1, G2, a1, a2, a3, a4, t1.far ht (by omega) (fun i hi => by have := a2 i hi; omega), t2.far ht (by omega) (fun i hi => by have := a4 i hi; omega)⟩
theorem BufZ.obj {ts t : TypeId} {B P n : Nat} {w : World} {g1 g2 lo hi : Nat} {f1 f2 : Nat → Nat → Int} (b : BufZ ts t B P n w g1 g2 lo hi f1 f2) : ObjZ ts t lo hi w (some ⟨g1, 0, none⟩) (grid n f1) (some ⟨g2, 0, none⟩) (grid n f2) := by
  obtain ⟨h1, h2, mid, G1, G2, a1, a2, a3, a4, t1, t2⟩ := b
  exact ⟨mid, by omega, by omega, t1.obj a1.1 a1.2 a2, t2.obj a3.1 a3.2 a4⟩
theorem row_touch' {t : TypeId} {w w' : World} {g lo hi : Nat} {xs : List Int} (h : Row t w g xs) (hs : g < lo ∨ hi ≤ g) (ht : Touch lo hi w w') : Row t w' g xs := (ht.block g h.lt hs).trans h
/-- What the loop keeps beside both pairs of tables: the boxes, all of them from P on but the first two. -/
structure LzK (w wr : World) (P L1 L2 R k : Nat) (A : Option Addr) (c : Nat) (B : Option Addr) (d : Nat) (tz ti : TypeId) (u v u' v' : Value) (p : List Int) (Pp : Nat) : Prop where
  below : Below w.heap.size w wr
  arg : Blk wr w.heap.size tz [.slice A k c, .slice B k d]
  res : Blk wr R tz [.slice none 0 0, .slice none 0 0]
  b1 : Blk wr L1 tz [u, v]
  b2 : Blk wr L2 tz [u', v']
  row : Row ti wr Pp p
theorem LzK.touch {w wr w2 : World} {P L1 L2 R k : Nat} {A : Option Addr} {c : Nat} {B : Option Addr} {d : Nat} {tz ti : TypeId} {u v u' v' : Value} {p : List Int} {Pp lo hi : Nat} (h : LzK w wr P L1 L2 R k A c B d tz ti u v u' v' p Pp) (ht : Touch lo hi wr w2) (hw : w.heap.size ≤ lo) (ho : w.heap.size < lo ∧ R < lo ∧ (L1 < lo ∨ hi ≤ L1) ∧ (L2 < lo ∨ hi ≤ L2) ∧ (Pp < lo ∨ hi ≤ Pp)) : LzK w w2 P L1 L2 R k A c B d tz ti u v u' v' p Pp :=
  ⟨ht.below h.below h.below.size hw, h.arg.touch ht (.inl ho.1), h.res.touch ht (.inl ho.2.1), h.b1.touch ht ho.2.2.1, h.b2.touch ht ho.2.2.2.1, row_touch' h.row ho.2.2.2.2 ht⟩

theorem swap_touch (w : World) (P : Nat) (a b c d : Value) : Touch P (P + 2) w ((((w.setCell ⟨P, 0, none⟩ a).setCell ⟨P, 1, none⟩ b).setCell ⟨P + 1, 0, none⟩ c).setCell ⟨P + 1, 1, none⟩ d) :=
  ⟨rfl, rfl, rfl, by simp [World.setCell], fun k _ hne => (Below.heap_setCell _ ⟨P + 1, 1, none⟩ d k (by show k ≠ P + 1; omega)).trans ((Below.heap_setCell _ ⟨P + 1, 0, none⟩ c k (by show k ≠ P + 1; omega)).trans ((Below.heap_setCell _ ⟨P, 1, none⟩ b k (by show k ≠ P; omega)).trans (Below.heap_setCell _ ⟨P, 0, none⟩ a k (by show k ≠ P; omega))))⟩
theorem LzK.swap {w wr : World} {P R k : Nat} {A : Option Addr} {c : Nat} {B : Option Addr} {d : Nat} {tz ti : TypeId} {u v u' v' : Value} {p : List Int} {Pp : Nat} (h : LzK w wr P P (P + 1) R k A c B d tz ti u v u' v' p Pp) (h1 : w.heap.size < P) (h2 : R < P) (h3 : P + 1 < Pp) :
    LzK w ((((wr.setCell ⟨P, 0, none⟩ u').setCell ⟨P, 1, none⟩ v').setCell ⟨P + 1, 0, none⟩ u).setCell ⟨P + 1, 1, none⟩ v) P P (P + 1) R k A c B d tz ti u' v' u v p Pp :=
  have ht := swap_touch wr P u' v' u v
  ⟨ht.below h.below h.below.size (by omega), h.arg.touch ht (.inl h1), h.res.touch ht (.inl h2),
   (((h.b1.set 0 u').set 1 v').far (p := ⟨P + 1, 0, none⟩) (by show P ≠ P + 1; omega) u).far (p := ⟨P + 1, 1, none⟩) (by show P ≠ P + 1; omega) v,
   (((h.b2.far (p := ⟨P, 0, none⟩) (by show P + 1 ≠ P; omega) u').far (p := ⟨P, 1, none⟩) (by show P + 1 ≠ P; omega) v').set 0 u).set 1 v,
   row_touch' h.row (.inr (by omega)) ht⟩

set_option maxRecDepth 100000 in
theorem lzI_any (A : Option Addr) (n c : Nat) (f : List (List Int)) (B : Option Addr) (m d : Nat) (s : List (List Int)) (zf zg : List (List Int)) (code : Int) (kz kw : Nat) (w : World) (hz : ZArg 1048576 w A n f B m s) (hr : LzRes f s zf zg code) (hk : ZSz 1048576 zf kz zg kw) :
    Calls Try.prog 39 #[.agg #[.slice A n c, .slice B m d]] w (ZPost 25 2 kz kw zf zg code w) := by
  have hnb := hz.sz.nb
  have HZ := hide hz
  have HFL := hide hz.sz.fl
  rcases hr with ⟨hp, h7, rfl, rfl, rfl⟩ | ⟨hp, h7, rfl, rfl, rfl⟩ | ⟨hp, rfl, rfl, rfl⟩
  · have HP := hide hp
    have h12 := hz.small hp
    have hsame := (hz.same hp).symm
    subst hsame
    have HSL : Hid (s.length = n) := hide (by rw [← hp.2.2]; exact hz.sz.fl)
    rw [hz.sz.fl] at h7 hk ⊢
    have HSH := hide (fun q => bestZ_shape q (hp.sq hz.sz.fl).1 (hp.sq hz.sz.fl).2)
    obtain rfl : n = kz := by rw [← hk.fl]; exact (HSH.out _).1.1.symm
    obtain rfl : n = kw := by rw [← hk.sl]; exact (HSH.out _).2.1.symm
    have h1k := h12.1
    have HPA := hide (perms_all n h1k h7)
    have HPI := hide (perms_isP n h1k h7)
    have HONE := hide (bestZ_one hp hz.sz.fl h7)
    obtain ⟨N, hN⟩ : ∃ N, (permsS n).length = N := ⟨_, rfl⟩
    have HNN := hide hN
    have hNb : N ≤ 5040 := by have := HPA.out.most; omega
    have hNp : 0 < N := by have := HPA.out.pos; omega
    rw [hN]
    have h7z : ¬ (7 : Int) < (n : Int) := by omega
    clear hp hz hk hN
    go_enter Try.func39, Try.ntmps39
    go_wp2_with fail
    refine calls_gen fun w0 hw0 => ?_
    have HB0 : Hid (Below w.heap.size w w0) := hide (by rw [hw0]; exact ((Below.refl _ _).alloc (Nat.le_refl _) _).alloc (by simp) _)
    have HK0 : Hid (Blk w0 w.heap.size 29 [.slice A n c, .slice B n d]) := hide (by rw [hw0]; exact (Blk.new _ _ _).alloc _)
    have HR0 : Hid (Blk w0 (w.heap.size + 1) 29 [.slice none 0 0, .slice none 0 0]) := hide (by rw [hw0]; have h := Blk.new (w.alloc (Obj.cells #[Value.slice A n c, Value.slice B n d] 29)) 29 [.slice none 0 0, .slice none 0 0]; simpa using h)
    have Z0 : Hid (w0.heap.size = w.heap.size + 2) := hide (by rw [hw0]; simp)
    clear hw0
    refine (mapI_any _ _ _ f _ _ _ s true _ (HZ.out.later HB0.out) (by simp [HP.out])).mono ?_
    rintro e w1 ⟨rfl, hb1⟩
    have HB1 := hide (HB0.out.trans (hb1.mono HB0.out.size))
    have HK1 := hide (HK0.out.later hb1)
    have HR1 := hide (HR0.out.later hb1)
    have Z1 := hide hb1.size
    have k0 := HK1.out.cell 0 _ rfl
    have k1 := HK1.out.cell 1 _ rfl
    clear hb1
    go_wp2_with fail
    refine (newTable_any n _ (by omega)).mono ?_
    rintro e w2 ⟨rfl, hb2, ht1, hs2⟩
    have HT1 := hide ht1
    have S2 := hide hs2
    have HB2 := hide hb2
    clear hb2 ht1 hs2 k0 k1
    go_wp2_with fail
    refine (newTable_any n _ (by omega)).mono ?_
    rintro e w3 ⟨rfl, hb3, ht2, hs3⟩
    have HT2 := hide ht2
    have S3 := hide hs3
    have HB3 := hide hb3
    clear hb3 ht2 hs3
    go_wp2_with fail
    refine (newTable_any n _ (by omega)).mono ?_
    rintro e w4 ⟨rfl, hb4, ht3, hs4⟩
    have HT3 := hide ht3
    have S4 := hide hs4
    have HB4 := hide hb4
    clear hb4 ht3 hs4
    go_wp2_with fail
    refine (newTable_any n _ (by omega)).mono ?_
    rintro e w5 ⟨rfl, hb5, ht4, hs5⟩
    have HT4 := hide ht4
    have S5 := hide hs5
    have HB5 := hide hb5
    clear hb5 ht4 hs5
    have hk5 := ((((HK1.out.later HB2.out).later HB3.out).later HB4.out).later HB5.out)
    have k0 := fun o o' => ((hk5.alloc o).alloc o').cell 0 _ rfl
    have k1 := fun o o' => ((hk5.alloc o).alloc o').cell 1 _ rfl
    have HK5 := hide hk5
    clear hk5
    go_wp2_with fail
    refine calls_gen fun w6 hw6 => ?_
    obtain ⟨P, hP⟩ : ∃ P, w5.heap.size = P := ⟨_, rfl⟩
    have hb56 : Below w5.heap.size w5 w6 := by rw [hw6]; exact ((Below.refl _ _).alloc (Nat.le_refl _) _).alloc (by simp) _
    have hL1 : Blk w6 P 29 [.slice (some ⟨w1.heap.size, 0, none⟩) n n, .slice (some ⟨w2.heap.size, 0, none⟩) n n] := by rw [hw6, ← hP]; exact (Blk.new _ _ _).alloc _
    have hL2 : Blk w6 (P + 1) 29 [.slice (some ⟨w3.heap.size, 0, none⟩) n n, .slice (some ⟨w4.heap.size, 0, none⟩) n n] := by rw [hw6, ← hP]; have h := Blk.new (w5.alloc (Obj.cells #[Value.slice (some ⟨w1.heap.size, 0, none⟩) n n, Value.slice (some ⟨w2.heap.size, 0, none⟩) n n] 29)) 29 [.slice (some ⟨w3.heap.size, 0, none⟩) n n, .slice (some ⟨w4.heap.size, 0, none⟩) n n]; simpa using h
    have s0 := Z0.out
    have s1 := Z1.out
    have s2 := S2.out
    have s3 := S3.out
    have s4 := S4.out
    have s5 := S5.out
    have HBF1 : Hid (BufZ 25 2 (w.heap.size + 2) P n w6 w1.heap.size w2.heap.size w1.heap.size w3.heap.size (fun _ _ => 0) (fun _ _ => 0)) := hide ⟨by omega, by omega, w2.heap.size, _, _, by omega, fun i hi => by omega, by omega, fun i hi => by omega, ((((HT1.out.later HB3.out).later HB4.out).later HB5.out).later hb56), (((HT2.out.later HB4.out).later HB5.out).later hb56)⟩
    have HBF2 : Hid (BufZ 25 2 (w.heap.size + 2) P n w6 w3.heap.size w4.heap.size w3.heap.size w5.heap.size (fun _ _ => 0) (fun _ _ => 0)) := hide ⟨by omega, by omega, w4.heap.size, _, _, by omega, fun i hi => by omega, by omega, fun i hi => by omega, ((HT3.out.later HB5.out).later hb56), (HT4.out.later hb56)⟩
    have HB6 := hide (((((HB1.out.trans (HB2.out.mono HB1.out.size)).trans (HB3.out.mono (by omega))).trans (HB4.out.mono (by omega))).trans (HB5.out.mono (by omega))).trans (hb56.mono (by omega)))
    have HK6 := hide (HK5.out.later hb56)
    have HR6 := hide (((((HR1.out.later HB2.out).later HB3.out).later HB4.out).later HB5.out).later hb56)
    have HL1 := hide hL1
    have HL2 := hide hL2
    have hwP : w.heap.size + 2 ≤ P := by omega
    have hdis : w3.heap.size ≤ w3.heap.size ∨ w5.heap.size ≤ w1.heap.size := .inl (Nat.le_refl _)
    have HG3 : Hid (w3.heap.size ≤ P) := hide (by omega)
    rw [hP] at hdis HBF2 ⊢
    have h6s : P + 1 < w6.heap.size := hL2.lt
    clear hw6 hb56 hL1 hL2 hP s0 s1 s2 s3 s4 s5 HT1 HT2 HT3 HT4 HB2 HB3 HB4 HB5 k0 k1 Z1 S2 S3 S4 S5 HK5
    refine (size_any _ _ _ _ _ _ _ hnb).mono ?_
    rintro e w7 ⟨rfl, hb7⟩
    have HB7 := hide (HB6.out.trans (hb7.mono HB6.out.size))
    replace HBF1 := hide (HBF1.out.far (Touch.of_below (lo := P) (hi := P) hb7) (.inl HBF1.out.2.1))
    replace HBF2 := hide (HBF2.out.far (Touch.of_below (lo := P) (hi := P) hb7) (.inl HBF2.out.2.1))
    have HK7 := hide (HK6.out.later hb7)
    have HR7 := hide (HR6.out.later hb7)
    replace HL1 := hide (HL1.out.later hb7)
    replace HL2 := hide (HL2.out.later hb7)
    have h7s := hb7.size
    clear hb7
    go_wp2_with fail
    refine (identityOf_any n _ (by omega)).mono ?_
    rintro e w8 ⟨rfl, hb8, hrow8, hs8⟩
    obtain ⟨Q, hQ⟩ : ∃ Q, w7.heap.size = Q := ⟨_, rfl⟩
    rw [hQ] at hrow8 ⊢
    have hQP : P + 1 < Q := by omega
    replace HBF1 := hide (HBF1.out.far (Touch.of_below (lo := P) (hi := P) hb8) (.inl HBF1.out.2.1))
    replace HBF2 := hide (HBF2.out.far (Touch.of_below (lo := P) (hi := P) hb8) (.inl HBF2.out.2.1))
    have HKK : Hid (LzK w w8 P P (P + 1) (w.heap.size + 1) n A c B d 29 2 (.slice (some ⟨w1.heap.size, 0, none⟩) n n) (.slice (some ⟨w2.heap.size, 0, none⟩) n n) (.slice (some ⟨w3.heap.size, 0, none⟩) n n) (.slice (some ⟨w4.heap.size, 0, none⟩) n n) (unitL n) Q) := hide ⟨HB7.out.trans (hb8.mono HB7.out.size), HK7.out.later hb8, HR7.out.later hb8, HL1.out.later hb8, HL2.out.later hb8, hrow8⟩
    have h8s : Q < w8.heap.size := hrow8.lt
    have HU0 : Hid ((permsS n).getD 0 [] = unitL n) := hide HPA.out.first
    clear hb8 hrow8 hs8 hQ HB6 HB7 HK6 HK7 HR6 HR7 HL1 HL2 h7s h6s
    have k0 := HKK.out.b1.cell 0 _ rfl
    have k1 := HKK.out.b1.cell 1 _ rfl
    have k2 := HKK.out.arg.cell 0 _ rfl
    have k3 := HKK.out.arg.cell 1 _ rfl
    go_wp2_with fail
    obtain ⟨hA1, hA2, mid, G1, G2, a1, a2, a3, a4, t1, t2⟩ := HBF1.out
    have T1 := hide t1
    have T2 := hide t2
    have A2 := hide a2
    have A4 := hide a4
    have hup : ∀ x ∈ unitL n, 0 ≤ x ∧ x < (n : Int) := by rw [← HU0.out]; exact (HPI.out 0 (by have := HNN.out; omega)).1
    have HUP := hide hup
    have hpos : 0 < (permsS n).length := by have := HNN.out; omega
    have hw3P : w3.heap.size ≤ P := HG3.out
    clear t1 t2 a2 a4 hup k0 k1 k2 k3
    refine (rfrom_any w1.heap.size mid w3.heap.size w1.heap.size w2.heap.size G1 G2 n n n _ _ A c f B d s (some ⟨Q, 0, none⟩) n (unitL n) w w8 HFL.out HSL.out (unitL_length n) hnb HP.out.1 HP.out.2.1 HUP.out HZ.out.fst HZ.out.snd (fun w' ht' => (row_touch' HKK.out.row (.inr (by omega)) ht').rd) HKK.out.below (by omega) T1.out T2.out a1 A2.out a3 A4.out (by omega)).mono ?_
    rintro e w9 ⟨rfl, ht9, tb1, tb2⟩
    have HB1' : Hid (BufZ 25 2 (w.heap.size + 2) P n w9 w1.heap.size w2.heap.size w1.heap.size w3.heap.size (renTo f (unitL n) n n fun _ _ => 0) (renTo s (unitL n) n n fun _ _ => 0)) := hide ⟨hA1, hA2, mid, G1, G2, a1, A2.out, a3, A4.out, tb1, tb2⟩
    have HGR1 : Hid (grid n (renTo f (unitL n) n n fun _ _ => 0) = (bestZ f s n 1).1) := hide (by rw [HONE.out, ← HU0.out]; exact renL_cover f n 0 _ HFL.out h1k h7 hpos)
    have HGR2 : Hid (grid n (renTo s (unitL n) n n fun _ _ => 0) = (bestZ f s n 1).2) := hide (by rw [HONE.out, ← HU0.out]; exact renL_cover s n 0 _ HSL.out h1k h7 hpos)
    have HB2' := hide (HBF2.out.far ht9 (.inr (Nat.le_refl _)))
    have HKK' := hide (HKK.out.touch ht9 (by omega) ⟨by omega, by omega, .inr (by omega), .inr (by omega), .inr (by omega)⟩)
    have HKR := hide (by have h := HKK'.out; rw [← HU0.out] at h; exact h)
    have h9s : Q < w9.heap.size := Nat.lt_of_lt_of_le h8s ht9.size
    clear ht9 tb1 tb2 hA1 hA2 a1 a3 T1 T2 A2 A4 HBF1 HBF2 HKK HKK' HUP h8s hpos HG3
    go_wp2_with fail
    go_loopg [] (N - 1) (fun r wr => ∃ (q g1 g2 lo hi g1' g2' lo' hi' : Nat) (F1 F2 F1' F2' : Nat → Nat → Int), r + q + 1 = N ∧ LzK w wr P P (P + 1) (w.heap.size + 1) n A c B d 29 2 (.slice (some ⟨g1, 0, none⟩) n n) (.slice (some ⟨g2, 0, none⟩) n n) (.slice (some ⟨g1', 0, none⟩) n n) (.slice (some ⟨g2', 0, none⟩) n n) ((permsS n).getD q []) Q ∧ BufZ 25 2 (w.heap.size + 2) P n wr g1 g2 lo hi F1 F2 ∧ grid n F1 = (bestZ f s n (q + 1)).1 ∧ grid n F2 = (bestZ f s n (q + 1)).2 ∧ BufZ 25 2 (w.heap.size + 2) P n wr g1' g2' lo' hi' F1' F2' ∧ (hi ≤ lo' ∨ hi' ≤ lo) ∧ Q < wr.heap.size)
    case atStart => exact ⟨0, _, _, _, _, _, _, _, _, _, _, _, _, by omega, HKR.out, HB1'.out, HGR1.out, HGR2.out, HB2'.out, hdis, h9s⟩
    case round =>
      obtain ⟨q, g1, g2, lo, hi, g1', g2', lo', hi', F1, F2, F1', F2', hq, hkk, hbf, hgr1, hgr2, hbf2, hds, hsz⟩ := hrel
      have HQ := hide hq
      have HKL := hide hkk
      have HBF := hide hbf
      have HG1 := hide hgr1
      have HG2 := hide hgr2
      have HBO := hide hbf2
      have HDS := hide hds
      have hqk : q < N := by omega
      clear hq hkk hbf hgr1 hgr2 hbf2 hds
      have HLQ := hide (HPA.out.len q (by have := HNN.out; omega))
      have hnx := HPA.out.next q (by have := HNN.out; omega)
      rw [HNN.out] at hnx
      have HNX := hide hnx
      clear hnx
      go_wp2_with fail
      refine (advance_any Q n n ((permsS n).getD q []) _ HLQ.out h1k (Nat.le_refl _) hnb HKL.out.row).mono ?_
      rintro e w10 hpost
      rcases hpost with ⟨hnn, rfl, ho, hrr⟩ | ⟨p', hnn, rfl, ho, hrr⟩
      · have hq1 : ¬ q + 1 < N := fun h => by
          have := HNX.out
          rw [if_pos h, hnn] at this
          cases this
        have hto : Touch Q (Q + 1) wr w10 := Touch.of_only ho (fun a ha => by cases ha; exact ⟨Nat.le_refl _, Nat.lt_succ_self _⟩)
        have hqk' : q + 1 = N := by omega
        have HBE := hide (HBF.out.far hto (.inl (by have := HBF.out.2.1; omega)))
        have hR := HKL.out.res.touch hto (.inl (by omega))
        have hL := HKL.out.b1.touch hto (.inl (by omega))
        have HBW := hide (hto.below HKL.out.below HKL.out.below.size (by omega))
        have hszR := hR.lt
        have S10a := hto.size
        have k0 := hL.cell 0 _ rfl
        have k1 := hL.cell 1 _ rfl
        have r0 := hR.cell 0 _ rfl
        have r1 := hR.cell 1 _ rfl
        have r2 := hR.frozen 0
        have r3 := hR.frozen 1
        have HRR := hide hR
        clear hnn ho hrr hto hR hL
        go_wp2_with fail
        refine bp_gen fun wf hwf => ?_
        have hob := HBE.out.obj
        rw [HG1.out, HG2.out, hqk'] at hob
        have hz0 := Z0.out
        have hob2 := hob.mono (lo' := w0.heap.size) (hi' := w10.heap.size) (by have := HBE.out.1; omega) (by have := HBE.out.2.1; omega)
        obtain ⟨q0, q1, hbf, hof⟩ := zend hwf HRR.out (by omega) (by omega : w.heap.size + 1 < w0.heap.size) HBW.out (by omega) hob2
        clear hwf k0 k1 r0 r1 r2 r3
        exact bodyPost_ret (v := .tuple #[.agg #[.slice (some ⟨g1, 0, none⟩) n n, .slice (some ⟨g2, 0, none⟩) n n], .int .i64 0]) (by simp [results, Try.results39, go_sem, q0, q1]) rfl ⟨_, _, _, _, rfl, hbf, hof⟩
      · have hq1 : q + 1 < N := by
          rcases Nat.lt_or_ge (q + 1) N with h | h
          · exact h
          · have := HNX.out
            rw [if_neg (by omega), hnn] at this
            cases this
        have hp' : (permsS n).getD (q + 1) [] = p' := by
          have := HNX.out
          rw [if_pos hq1, hnn] at this
          injection this with h
          exact h.symm
        have hto : Touch Q (Q + 1) wr w10 := Touch.of_only ho (fun a ha => by cases ha; exact ⟨Nat.le_refl _, Nat.lt_succ_self _⟩)
        have HBE := hide (HBF.out.far hto (.inl (by have := HBF.out.2.1; omega)))
        have HBO' := hide (HBO.out.far hto (.inl (by have := HBO.out.2.1; omega)))
        have S10 := hto.size
        have hlp : p'.length = n := by rw [← hp']; exact HPA.out.len (q + 1) (by have := HNN.out; omega)
        have hpin : ∀ x ∈ p', 0 ≤ x ∧ x < (n : Int) := by rw [← hp']; exact (HPI.out (q + 1) (by have := HNN.out; omega)).1
        have HCF : Hid (∀ F, grid n (renTo f p' n n F) = renL f p') := hide (fun F => by rw [← hp']; exact renL_cover f n (q + 1) F HFL.out h1k h7 (by have := HNN.out; omega))
        have HCS : Hid (∀ F, grid n (renTo s p' n n F) = renL s p') := hide (fun F => by rw [← hp']; exact renL_cover s n (q + 1) F HSL.out h1k h7 (by have := HNN.out; omega))
        have HBST : Hid (bestZ f s n (q + 1 + 1) = if lessZ (renL f p') (renL s p') (bestZ f s n (q + 1)).1 (bestZ f s n (q + 1)).2 then (renL f p', renL s p') else bestZ f s n (q + 1)) := hide (by rw [← hp']; rfl)
        have HKM : Hid (LzK w w10 P P (P + 1) (w.heap.size + 1) n A c B d 29 2 (.slice (some ⟨g1, 0, none⟩) n n) (.slice (some ⟨g2, 0, none⟩) n n) (.slice (some ⟨g1', 0, none⟩) n n) (.slice (some ⟨g2', 0, none⟩) n n) p' Q) := hide ⟨hto.below HKL.out.below HKL.out.below.size (by omega), HKL.out.arg.touch hto (.inl (by omega)), HKL.out.res.touch hto (.inl (by omega)), HKL.out.b1.touch hto (.inl (by omega)), HKL.out.b2.touch hto (.inl (by omega)), hrr⟩
        have HLP := hide hlp
        have HPIN := hide hpin
        have HPE := hide hp'
        clear hnn ho hrr hto hlp hpin hp' HKL HBF HBO
        obtain ⟨m1, m2, mid', G1', G2', a1, a2, a3, a4, t1, t2⟩ := HBO'.out
        have T1 := hide t1
        have T2 := hide t2
        have A2 := hide a2
        have A4 := hide a4
        clear t1 t2 a2 a4 HBO'
        have k0 := HKM.out.b2.cell 0 _ rfl
        have k1 := HKM.out.b2.cell 1 _ rfl
        have k2 := HKM.out.arg.cell 0 _ rfl
        have k3 := HKM.out.arg.cell 1 _ rfl
        go_wp2_with fail
        clear k0 k1 k2 k3
        refine (rfrom_any lo' mid' hi' g1' g2' G1' G2' n n n _ _ A c f B d s (some ⟨Q, 0, none⟩) n p' w w10 HFL.out HSL.out HLP.out hnb HP.out.1 HP.out.2.1 HPIN.out HZ.out.fst HZ.out.snd (fun w' ht' => (row_touch' HKM.out.row (.inr (by omega)) ht').rd) HKM.out.below (by omega) T1.out T2.out a1 A2.out a3 A4.out (by omega)).mono ?_
        rintro e w11 ⟨rfl, ht11, tb1, tb2⟩
        have HBN : Hid (BufZ 25 2 (w.heap.size + 2) P n w11 g1' g2' lo' hi' (renTo f p' n n F1') (renTo s p' n n F2')) := hide ⟨m1, m2, mid', G1', G2', a1, A2.out, a3, A4.out, tb1, tb2⟩
        have HBL := hide (HBE.out.far ht11 (by have := HDS.out; omega))
        have HKN := hide (HKM.out.touch ht11 (by omega) ⟨by omega, by omega, .inr (by omega), .inr (by omega), .inr (by omega)⟩)
        have S11 := ht11.size
        clear ht11 tb1 tb2 T1 T2 A2 A4 HKM HBE a1 a3
        have hob1 := HBN.out.obj.weak
        have hob2 := HBL.out.obj.weak
        rw [HCF.out, HCS.out] at hob1
        rw [HG1.out, HG2.out] at hob2
        have HO1 := hide hob1
        have HO2 := hide hob2
        obtain ⟨v, hv⟩ : ∃ v, cmpZ (renL f p') (renL s p') (bestZ f s n (q + 1)).1 (bestZ f s n (q + 1)).2 = v := ⟨_, rfl⟩
        have hneg := cmpZ_neg (renL f p') (renL s p') (bestZ f s n (q + 1)).1 (bestZ f s n (q + 1)).2
        rw [hv] at hneg
        have HV := hide hv
        have HNEG := hide hneg
        clear hob1 hob2 hv hneg
        have k0 := HKN.out.b2.cell 0 _ rfl
        have k1 := HKN.out.b2.cell 1 _ rfl
        have k2 := HKN.out.b1.cell 0 _ rfl
        have k3 := HKN.out.b1.cell 1 _ rfl
        go_wp2_with fail
        clear k0 k1 k2 k3
        refine (cmpSol_any _ _ _ _ n _ _ _ _ (renL f p') (renL s p') (bestZ f s n (q + 1)).1 (bestZ f s n (q + 1)).2 v _ hnb (ren_sq HFL.out p') (ren_sq HSL.out p') (HSH.out (q + 1)).1 (HSH.out (q + 1)).2 HO1.out.fst HO1.out.snd HO2.out.fst HO2.out.snd HV.out).mono ?_
        rintro e w12 ⟨rfl, hb12⟩
        have ht12 : Touch (Q + 1) (Q + 1) w11 w12 := Touch.of_below hb12
        have HKF := hide (HKN.out.touch ht12 (by omega) ⟨by omega, by omega, .inl (by omega), .inl (by omega), .inl (by omega)⟩)
        have HBN' := hide (HBN.out.far ht12 (.inl (by omega)))
        have HBL' := hide (HBL.out.far ht12 (.inl (by have := HBL.out.2.1; omega)))
        have S12 := hb12.size
        have hsz12 : Q < w12.heap.size := by omega
        clear hb12 ht12 HBN HBL HKN HO1 HO2
        have k0 := HKF.out.b1.cell 0 _ rfl
        have k1 := HKF.out.b1.cell 1 _ rfl
        have k2 := HKF.out.b2.cell 0 _ rfl
        have k3 := HKF.out.b2.cell 1 _ rfl
        have k4 := HKF.out.b1.frozen 0
        have k5 := HKF.out.b1.frozen 1
        have k6 := HKF.out.b2.frozen 0
        have k7 := HKF.out.b2.frozen 1
        have n1 : P ≠ P + 1 := by omega
        have n2 := n1.symm
        by_cases hv0 : v < 0
        · have HRES : Hid (bestZ f s n (q + 1 + 1) = (renL f p', renL s p')) := hide (by rw [HBST.out, if_pos (HNEG.out.1 hv0)])
          go_wp2_with fail
          go_roundg (N - 1 - (q + 1))
          case measure => have := HQ.out; omega
          case rel =>
            have hsw := HKF.out.swap (by omega) (by omega) hQP
            have hts := swap_touch w12 P (.slice (some ⟨g1', 0, none⟩) n n) (.slice (some ⟨g2', 0, none⟩) n n) (.slice (some ⟨g1, 0, none⟩) n n) (.slice (some ⟨g2, 0, none⟩) n n)
            exact ⟨q + 1, g1', g2', lo', hi', g1, g2, lo, hi, _, _, _, _, by omega, by rw [HPE.out]; exact hsw, HBN'.out.far hts (.inl m2), by rw [HCF.out, HRES.out], by rw [HCS.out, HRES.out], HBL'.out.far hts (.inl HBL'.out.2.1), by have := HDS.out; omega, by have := hts.size; omega⟩
        · have HRES : Hid (bestZ f s n (q + 1 + 1) = bestZ f s n (q + 1)) := hide (by rw [HBST.out, if_neg (fun h => hv0 (HNEG.out.2 h))])
          go_wp2_with fail
          go_roundg (N - 1 - (q + 1))
          case measure => have := HQ.out; omega
          case rel => exact ⟨q + 1, g1, g2, lo, hi, g1', g2', lo', hi', _, _, _, _, by omega, by rw [HPE.out]; exact HKF.out, HBL'.out, by rw [HRES.out]; exact HG1.out, by rw [HRES.out]; exact HG2.out, HBN'.out, HDS.out, hsz12⟩
  · have HP := hide hp
    obtain rfl : kz = 0 := by simpa using hk.fl.symm
    obtain rfl : kw = 0 := by simpa using hk.sl.symm
    have h7z : (7 : Int) < (n : Int) := by have := HFL.out; omega
    clear hp hz hk
    go_enter Try.func39, Try.ntmps39
    go_wp2_with fail
    refine calls_gen fun w0 hw0 => ?_
    have HB0 : Hid (Below w.heap.size w w0) := hide (by rw [hw0]; exact ((Below.refl _ _).alloc (Nat.le_refl _) _).alloc (by simp) _)
    have HK0 : Hid (Blk w0 w.heap.size 29 [.slice A n c, .slice B m d]) := hide (by rw [hw0]; exact (Blk.new _ _ _).alloc _)
    have HR0 : Hid (Blk w0 (w.heap.size + 1) 29 [.slice none 0 0, .slice none 0 0]) := hide (by rw [hw0]; have h := Blk.new (w.alloc (Obj.cells #[Value.slice A n c, Value.slice B m d] 29)) 29 [.slice none 0 0, .slice none 0 0]; simpa using h)
    clear hw0
    refine (mapI_any _ _ _ f _ _ _ s true _ (HZ.out.later HB0.out) (by simp [HP.out])).mono ?_
    rintro e w1 ⟨rfl, hb1⟩
    have HB1 := hide (HB0.out.trans (hb1.mono HB0.out.size))
    have HR1 := hide (HR0.out.later hb1)
    have HK1 := hide (HK0.out.later hb1)
    have k0 := HK1.out.cell 0 _ rfl
    have k1 := HK1.out.cell 1 _ rfl
    have k2 := HR1.out.cell 0 _ rfl
    have k3 := HR1.out.cell 1 _ rfl
    have k4 := HR1.out.frozen 0
    have k5 := HR1.out.frozen 1
    clear hb1
    go_wp2_with fail
    refine bp_gen fun wf hwf => ?_
    obtain ⟨q0, q1, hbf, hof⟩ := zend (ts := 25) (t := 2) (w2 := w1) hwf HR1.out (by omega) HR1.out.lt HB1.out HB1.out.size (ObjZ.empty (Nat.le_refl _))
    clear hwf k0 k1 k2 k3 k4 k5
    exact bodyPost_ret (v := .tuple #[.agg #[.slice none 0 0, .slice none 0 0], .int .i64 3]) (by simp [results, Try.results39, go_sem, q0, q1]) rfl ⟨_, _, _, _, rfl, hbf, hof⟩
  · have HP := hide hp
    obtain rfl : kz = 0 := by simpa using hk.fl.symm
    obtain rfl : kw = 0 := by simpa using hk.sl.symm
    clear hp hz hk
    go_enter Try.func39, Try.ntmps39
    go_wp2_with fail
    refine calls_gen fun w0 hw0 => ?_
    have HB0 : Hid (Below w.heap.size w w0) := hide (by rw [hw0]; exact ((Below.refl _ _).alloc (Nat.le_refl _) _).alloc (by simp) _)
    have HK0 : Hid (Blk w0 w.heap.size 29 [.slice A n c, .slice B m d]) := hide (by rw [hw0]; exact (Blk.new _ _ _).alloc _)
    have HR0 : Hid (Blk w0 (w.heap.size + 1) 29 [.slice none 0 0, .slice none 0 0]) := hide (by rw [hw0]; have h := Blk.new (w.alloc (Obj.cells #[Value.slice A n c, Value.slice B m d] 29)) 29 [.slice none 0 0, .slice none 0 0]; simpa using h)
    clear hw0
    refine (mapI_any _ _ _ f _ _ _ s false _ (HZ.out.later HB0.out) (by simp [HP.out])).mono ?_
    rintro e w1 ⟨rfl, hb1⟩
    have HB1 := hide (HB0.out.trans (hb1.mono HB0.out.size))
    have HR1 := hide (HR0.out.later hb1)
    have HK1 := hide (HK0.out.later hb1)
    have k0 := HK1.out.cell 0 _ rfl
    have k1 := HK1.out.cell 1 _ rfl
    have k2 := HR1.out.cell 0 _ rfl
    have k3 := HR1.out.cell 1 _ rfl
    have k4 := HR1.out.frozen 0
    have k5 := HR1.out.frozen 1
    clear hb1
    go_wp2_with fail
    refine bp_gen fun wf hwf => ?_
    obtain ⟨q0, q1, hbf, hof⟩ := zend (ts := 25) (t := 2) (w2 := w1) hwf HR1.out (by omega) HR1.out.lt HB1.out HB1.out.size (ObjZ.empty (Nat.le_refl _))
    clear hwf k0 k1 k2 k3 k4 k5
    exact bodyPost_ret (v := .tuple #[.agg #[.slice none 0 0, .slice none 0 0], .int .i64 1]) (by simp [results, Try.results39, go_sem, q0, q1]) rfl ⟨_, _, _, _, rfl, hbf, hof⟩
end Go.Proofs.Ytcmoeapgpljeiaa
namespace Go.Proofs.Ytcmoeapgpljeiaa
open Go Go.RowKit
set_option maxHeartbeats 2000000
set_option maxRecDepth 100000

theorem rsInfo : (Try.prog.info? 2).map (fun i => (i.zero, i.size, i.bytes)) = some (some (.int .i64 0), 1, 8) := by kernel_rfl
theorem rsInfo2 : (Try.prog.info? 25).map (fun i => (i.zero, i.size, i.bytes)) = some (some (.slice none 0 0), 1, 24) := by kernel_rfl
theorem rs_new {w : World} {v : Value} {t : TypeId} : ∀ j u, [v][j]? = some u → (w.alloc (.cells #[v] t)).cell? ((⟨w.heap.size, 0, none⟩ : Addr).add j) = some u := by
  intro j u hj
  match j, hj with
  | 0, hj => simp at hj; subst hj; simp [Addr.add, World.cell?_alloc_new]

def zeros (n : Nat) : List Int := List.replicate n 0
theorem zeros_length (n : Nat) : (zeros n).length = n := by simp [zeros]

theorem l01Rename_any (A : Option Addr) (n c : Nat) (rows : List (List Int)) (D : Option Addr) (d : Nat) (p : List Int) (w : World)
    (hn : rows.length = n) (hm : p.length = n) (h1 : 1 ≤ n) (hb : n ≤ 1048576) (hbs : ∀ i, i < rows.length → (rows.getD i []).length = n) (hin : ∀ i j, i < n → j < n → 0 ≤ (rows.getD i []).getD j 0 ∧ (rows.getD i []).getD j 0 < (n : Int)) (hpin : ∀ x ∈ p, 0 ≤ x ∧ x < (n : Int))
    (hr : Rd2 w A rows) (hp : Rd w D p) :
    Calls Try.prog 98 #[.slice A n c, .slice D n d] w fun e w' => ∃ A' c', e = .returned (.slice A' n c') ∧ Below w.heap.size w w' ∧ Obj2 25 2 w.heap.size w'.heap.size w' A' (renL rows p) := by
  have HN := hide hn
  have HM := hide hm
  clear hn hm
  have hmk := run_make_row' (P := Try.prog) 25 2 (.int .i64 0) 8 Try.underlying25 rsInfo rfl .i64 .i64 n (by omega) (by omega)
  obtain ⟨i0, hi, hz0, hz1, hz2⟩ := info_parts rsInfo2
  go_enter Try.func98, Try.ntmps98
  go_wp2_with fail
  go_loopw [5, 6] (fun v i wr => ∃ (k : Nat) (vals : List Value), k ≤ n ∧ i = .int .i64 k ∧ Below w.heap.size w wr ∧ LstV 25 2 w.heap.size wr v (List.replicate k (zeros n)) vals ∧ w.heap.size ≤ wr.heap.size) (fun _ i _ => n - (intOf i).toNat)
  case atStart => exact ⟨0, [], Nat.zero_le _, rfl, (Below.refl _ _).alloc (Nat.le_refl _) _, by simpa using LstV.start w _ _, by simp⟩
  case round =>
    obtain ⟨k, vals, hk, rfl, hbe, hlst, hsz⟩ := hrel
    have HB := hide hbe
    have HL := hide hlst
    clear hbe hlst
    by_cases hlt : k < n
    · have hltz : (k : Int) < n := by omega
      have hown : (wr.alloc (.cells (madeCells #[.int .i64 0] n) 2)).ownsRow w.heap.size 25 1 u5 k vals := by have := (HL.out.later ((Below.refl _ _).alloc (Nat.le_refl _) (.cells (madeCells #[.int .i64 0] n) 2))).own; simpa using this
      have HO := hide hown
      clear hown
      go_wp2_with (at_builtin; refine wpList_append_own _ rfl _ _ 22 rfl w.heap.size 25 i0 (.slice none 0 0) 1 24 Try.underlying22 hi hz0 hz1 hz2 rfl (by decide) _ _ _ rfl (HO.out.alloc _) ⟨wr.heap.size + 1, 0, none⟩ 1 1 [.slice (some ⟨wr.heap.size, 0, none⟩) n n] rfl rfl ?c1 ?c2 ?c3 ?c4 ?c5 ?_)
      case c1 => have h := rs_new (w := wr.alloc (.cells (madeCells #[.int .i64 0] n) 2)) (v := .slice (some ⟨wr.heap.size, 0, none⟩) n n) (t := 25); simpa using h
      case c2 => intro u hu; simp at hu; subst hu; rfl
      case c3 => unfold maxLen; omega
      case c4 => omega
      case c5 => simp; omega
      intro v' w3 hown' hgrow _
      have HO' := hide hown'
      have HG := hide hgrow
      clear hown' hgrow
      go_wp2_with fail
      go_roundw
      case rel =>
        have hnew : Obj1 2 wr.heap.size (wr.alloc (.cells (madeCells #[.int .i64 0] n) 2)).heap.size (wr.alloc (.cells (madeCells #[.int .i64 0] n) 2)) (some ⟨wr.heap.size, 0, none⟩) (zeros n) := .inr ⟨_, rfl, Nat.le_refl _, by simp, (Row.made 2 wr n).own⟩
        have hB3 : Below w.heap.size w w3 := ((HB.out.alloc hsz _).alloc (by simp; omega) _).grown HG.out (by simp; omega) (fun g hg => (HO.out.alloc (.cells #[.slice (some ⟨wr.heap.size, 0, none⟩) n n] 25)).lt g hg |>.1)
        have hpush := LstV.push (tmp := .cells #[.slice (some ⟨wr.heap.size, 0, none⟩) n n] 25) (A := some ⟨wr.heap.size, 0, none⟩) (c := n) (r := zeros n) (w1 := w3) (v' := v') (by decide) hsz HL.out ((Below.refl _ _).alloc (Nat.le_refl _) _) hnew (by rw [zeros_length, List.length_replicate]; exact HO'.out) HG.out
        refine ⟨k + 1, vals ++ [.slice (some ⟨wr.heap.size, 0, none⟩) (zeros n).length n], by omega, by go_num, hB3, ?_, by have := hB3.size; omega⟩
        rw [List.replicate_succ']
        exact hpush
      case measure => simp [intOf]; omega
    · have hkn : k = n := by omega
      subst hkn
      clear hmk
      obtain ⟨A', c', hv, hobj⟩ := HL.out.shape
      obtain ⟨g, G, rfl, hg1, hg2, hG, htab⟩ := hobj.tabF (by decide) h1 (by simp) (fun i hi => by simp [hi, zeros])
      have HT := hide (htab.congr (f' := fun _ _ => 0) (fun a b ha hb => by simp [zeros, ha, hb]))
      have HHG := hide hG
      rw [List.length_replicate] at hv
      clear htab hG
      rw [hv]
      clear hv
      go_wp2_with fail
      obtain ⟨w1, hw1⟩ : ∃ w1 : World, w1 = wr := ⟨_, rfl⟩
      subst hw1
      have HW1 : Hid (Below w.heap.size w w1) := HB
      clear HL HB hi
      go_loopw [7] (fun i wr => ∃ x : Nat, x ≤ k ∧ i = .int .i64 x ∧ Below w.heap.size w wr ∧ TabF 25 2 wr g G k (renTo rows p k x fun _ _ => 0) ∧ wr.heap.size = w1.heap.size) (fun i _ => k - (intOf i).toNat)
      case atStart => exact ⟨0, Nat.zero_le _, rfl, HW1.out, HT.out, rfl⟩
      case round =>
        obtain ⟨x, hx, rfl, hbx, htab, hsx⟩ := hrel
        have HBX := hide hbx
        have HT2 := hide htab
        have HS2 := hide hsx
        clear hbx htab hsx
        by_cases hlx : x < k
        · obtain ⟨b, o, rfl, hbw, hc⟩ := hr (by have := HN.out; omega)
          obtain ⟨Ax, cx, hcell, hrd⟩ := hc x (by have := HN.out; omega)
          have hl := hbs x (by have := HN.out; omega)
          obtain ⟨r, hx'⟩ : ∃ r, r = rows.getD x [] := ⟨_, rfl⟩
          rw [← hx'] at hcell hrd hl
          rw [hl] at hcell
          have HX := hide hx'
          have HL := hide hl
          have HCELL := hide hcell
          obtain ⟨px, hpx, hpxn⟩ := elem_range hpin (i := x) (by have := HM.out; omega)
          have HPX := hide hpx
          obtain ⟨b3, o3, rfl, hbw3, hc3⟩ := hp (by have := HM.out; omega)
          have HC3 := hide hc3
          have HHIN := hide hin
          have HPIN := hide hpin
          have e1 : wr.cell? ⟨b3, o3 + x, none⟩ = some (.int .i64 px) := by rw [← hpx]; exact (HBX.out.cell (p := ⟨b3, o3 + x, none⟩) hbw3).trans (hc3 x (by have := HM.out; omega))
          obtain ⟨C, htop⟩ := HT2.out.top
          have e4 : wr.cell? ⟨g, px, none⟩ = some (.slice (some ⟨G px, 0, none⟩) k (C px)) := htop.cell hpxn
          clear hx' hc hl hcell hbs hpx hc3 hin hpin htop
          have hltz : (x : Int) < k := by omega
          have hpxz : (px : Int) < k := by omega
          go_wp2_with fail
          obtain ⟨wo, rfl⟩ : ∃ wo : World, wo = wr := ⟨_, rfl⟩
          clear e1 e4
          go_loopw [9] (fun i wi => ∃ y : Nat, y ≤ k ∧ i = .int .i64 y ∧ Below w.heap.size w wi ∧ TabF 25 2 wi g G k (renRow rows p x y (renTo rows p k x fun _ _ => 0)) ∧ wi.heap.size = w1.heap.size) (fun i _ => k - (intOf i).toNat)
          case atStart => exact ⟨0, Nat.zero_le _, rfl, HBX.out, HT2.out, HS2.out⟩
          case round =>
            obtain ⟨y, hy, rfl, hti, htabi, hsi⟩ := hrel
            have HTI := hide hti
            have HTB := hide htabi
            have HSI := hide hsi
            clear hti htabi hsi
            by_cases hlty : y < k
            · obtain ⟨b2, o2, rfl, hbw2, hc2⟩ := hrd (by have := HL.out; omega)
              have hv : wr.cell? ⟨b2, o2 + y, none⟩ = some (.int .i64 (r.getD y 0)) := (HTI.out.cell (p := ⟨b2, o2 + y, none⟩) hbw2).trans (hc2 y (by have := HL.out; omega))
              have hrow : wr.cell? ⟨b, o + x, none⟩ = some (.slice (some ⟨b2, o2, none⟩) k cx) := (HTI.out.cell (p := ⟨b, o + x, none⟩) hbw).trans HCELL.out
              have hzr := HHIN.out x y hlx hlty
              rw [← HX.out] at hzr
              obtain ⟨z, hz⟩ := Int.eq_ofNat_of_zero_le hzr.1
              rw [hz] at hv
              have hzn : z < k := by have := hzr.2; omega
              have HZ := hide hz
              obtain ⟨py, hpy, hpyn⟩ := elem_range HPIN.out (i := y) (by have := HM.out; omega)
              have HPY := hide hpy
              obtain ⟨q, hq⟩ : ∃ q, p.getD z 0 = q := ⟨_, rfl⟩
              have HQ := hide hq
              have e2 : wr.cell? ⟨b3, o3 + y, none⟩ = some (.int .i64 py) := by rw [← hpy]; exact (HTI.out.cell (p := ⟨b3, o3 + y, none⟩) hbw3).trans (HC3.out y (by have := HM.out; omega))
              have e3 : wr.cell? ⟨b3, o3 + z, none⟩ = some (.int .i64 q) := by rw [← hq]; exact (HTI.out.cell (p := ⟨b3, o3 + z, none⟩) hbw3).trans (HC3.out z (by have := HM.out; omega))
              have e5 := (HTB.out.row px hpxn).cell hpyn
              obtain ⟨old, hold⟩ : ∃ q, renRow rows p x y (renTo rows p k x fun _ _ => 0) px py = q := ⟨_, rfl⟩
              rw [hold] at e5
              have e6 : wr.frozen? ⟨G px, py, none⟩ = false := (HTB.out.row px hpxn).frozen py
              clear hz hzr hold hc2 hrd hpy hq
              have hltyz : (y : Int) < k := by omega
              have hpyz : (py : Int) < k := by omega
              have hzz : (z : Int) < k := by omega
              go_wp2_with fail
              go_still_tail 16, (by kernel_rfl)
              change wpList _ _ _ _ _ wr.drew
              go_wp2_with fail
              go_roundw
              case rel =>
                have hset := HTB.out.set px py q hpxn
                have hg := HHG.out px hpxn
                refine ⟨y + 1, by omega, by go_num, (HTI.out.setCell (p := ⟨G px, py, none⟩) hg.1 _).drew, ?_, by have := HSI.out; simpa [World.setCell, World.drew] using this⟩
                have h2 : TabF 25 2 ((wr.setCell ⟨G px, py, none⟩ (.int .i64 q)).drew) g G k (fun a b => if a = px ∧ b = py then q else renRow rows p x y (renTo rows p k x fun _ _ => 0) a b) := ⟨hset.top, hset.row, hset.ne, hset.inj⟩
                refine h2.congr (fun a b _ _ => ?_)
                have e1 : (p.getD x 0).toNat = px := by rw [HPX.out]; simp
                have e2 : (p.getD y 0).toNat = py := by rw [HPY.out]; simp
                have e3 : ((rows.getD x []).getD y 0).toNat = z := by rw [← HX.out, HZ.out]; simp
                simp only [renRow]
                rw [e1, e2, e3, HQ.out]
              case measure => simp [intOf]; omega
            · have hyn : y = k := by omega
              subst hyn
              go_wp2_with fail
              go_roundw
              case rel => exact ⟨x + 1, by omega, by go_num, HTI.out, HTB.out, HSI.out⟩
              case measure => simp [intOf]; omega
        · have hxn : x = k := by omega
          subst hxn
          go_wp2_with fail
          go_ret
          refine ⟨_, _, rfl, HBX.out, ?_⟩
          have e := HN.out
          unfold renL
          rw [e]
          have hs := HS2.out
          exact HT2.out.obj hg1 (by omega) (fun i hi => by have := HHG.out i hi; omega)
end Go.Proofs.Ytcmoeapgpljeiaa
namespace Go.Proofs.Ytcmoeapgpljeiaa
open Go Go.RowKit
set_option maxHeartbeats 2000000

theorem lrenS_any (A : Option Addr) (n c : Nat) (f : List (List Int)) (B : Option Addr) (d : Nat) (s : List (List Int)) (D : Option Addr) (e : Nat) (p : List Int) (w : World) (hz : ZArg 1048576 w A n f B n s) (hp : PMap f s) (hl : p.length = n) (hpi : ∀ x ∈ p, 0 ≤ x ∧ x < (n : Int)) (hpr : Rd w D p) :
    Calls Try.prog 58 #[.agg #[.slice A n c, .slice B n d], .slice D n e] w fun e w' => ∃ A' c' B' d', e = .returned (.agg #[.slice A' n c', .slice B' n d']) ∧ Below w.heap.size w w' ∧ ObjW 25 2 w.heap.size w'.heap.size w' A' (renL f p) B' (renL s p) := by
  have HZ := hide hz
  have HP := hide hp
  have HL := hide hl
  have HPI := hide hpi
  have h12 := hz.small hp
  clear hz hp hl hpi
  go_enter Try.func58, Try.ntmps58
  go_wp2_with fail
  refine wp_gen fun w0 hw0 => ?_
  have hb0 : Below w.heap.size w w0 := by rw [hw0]; exact ((Below.refl _ _).alloc (Nat.le_refl _) _).alloc (by simp) _
  have HBc := hide hb0
  have HK : Hid (Blk w0 w.heap.size 29 [.slice A n c, .slice B n d]) := hide (by rw [hw0]; exact (Blk.new _ _ _).alloc _)
  have HR : Hid (Blk w0 (w.heap.size + 1) 29 [.slice none 0 0, .slice none 0 0]) := hide (by rw [hw0]; have h := Blk.new (w.alloc (Obj.cells #[Value.slice A n c, Value.slice B n d] 29)) 29 [.slice none 0 0, .slice none 0 0]; simpa using h)
  clear hw0 hb0
  have k0 := HK.out.cell 0 _ rfl
  have k1 := HK.out.cell 1 _ rfl
  have k2 := HR.out.cell 0 _ rfl
  have k3 := HR.out.cell 1 _ rfl
  have k4 := HR.out.frozen 0
  have k5 := HR.out.frozen 1
  have tok1 : True := trivial
  go_region_held3 (fun w' => w'.cell? ⟨w.heap.size, 0, none⟩ = some (.slice A n c) ∧ w'.cell? ⟨w.heap.size, 1, none⟩ = some (.slice B n d)) (first | exact ⟨k0, k1⟩ | go_keep) (first | (go_at_call 98; have _t := tok1; clear _t tok1; go_must (refine calls_gen fun wc hwc => ?_; (first | have hbx := drew_below hwc | have hbx := eq_below hwc); replace HBc := hide (HBc.out.trans (hbx.mono HBc.out.size)); replace HK := hide (HK.out.later hbx); replace HR := hide (HR.out.later hbx); clear hwc hbx; have hrl := HR.out.lt; refine (l01Rename_any _ _ _ f _ _ p _ HZ.out.sz.fl HL.out h12.1 (by omega) (fun i hi => HP.out.1.row_len HZ.out.sz.fl (by have := HZ.out.sz.fl; omega)) (HP.out.1.inr' HZ.out.sz.fl) HPI.out (HZ.out.later HBc.out).fst (hpr.later HBc.out)).mono ?_; rintro e wd ⟨A3, c3, rfl, hbd, ho3⟩; replace HBc := hide (HBc.out.trans (hbd.mono HBc.out.size)); replace HK := hide (HK.out.later hbd); replace HR := hide (HR.out.later hbd); clear hbd; have k0 := HK.out.cell 0 _ rfl; have k1 := HK.out.cell 1 _ rfl; have k2 := HR.out.cell 0 _ rfl; have k3 := HR.out.cell 1 _ rfl; have HO3 := hide (ObjT.of (lo' := w.heap.size + 1 + 1) ho3 hrl (Nat.le_refl _)); clear ho3 hrl; have k4 := HR.out.frozen 0; have k5 := HR.out.frozen 1)) | (go_at_call 98; go_must (refine calls_gen fun wc hwc => ?_; (first | have hbx := drew_below hwc | have hbx := eq_below hwc); replace HBc := hide (HBc.out.trans (hbx.mono HBc.out.size)); replace HK := hide (HK.out.later hbx); replace HR := hide (HR.out.later hbx); replace HO3 := hide (HO3.out.later hbx); clear hwc hbx; have hrl := HR.out.lt; refine (l01Rename_any _ _ _ s _ _ p _ HZ.out.sz.sl HL.out h12.1 (by omega) (fun i hi => HP.out.2.1.row_len HZ.out.sz.sl (by have := HZ.out.sz.sl; omega)) (HP.out.2.1.inr' HZ.out.sz.sl) HPI.out (HZ.out.later HBc.out).snd (hpr.later HBc.out)).mono ?_; rintro e wd ⟨A4, c4, rfl, hbd, ho4⟩; replace HBc := hide (HBc.out.trans (hbd.mono HBc.out.size)); replace HK := hide (HK.out.later hbd); replace HR := hide (HR.out.later hbd); replace HO3 := hide (HO3.out.later hbd); clear hbd; have k0 := HK.out.cell 0 _ rfl; have k1 := HK.out.cell 1 _ rfl; have k2 := HR.out.cell 0 _ rfl; have k3 := HR.out.cell 1 _ rfl; have HO4 := hide (ObjT.of (lo' := w.heap.size + 1 + 1) ho4 hrl (Nat.le_refl _)); clear ho4 hrl; have k4 := HR.out.frozen 0; have k5 := HR.out.frozen 1)))
  go_wp2_with fail
  refine bp_gen fun wf hwf => ?_
  obtain ⟨q0, q1, hbf, hof⟩ := wend2 hwf HR.out (by omega) HBc.out HO3.out HO4.out
  clear hwf k0 k1 k2 k3 k4 k5
  exact bodyPost_ret (v := .agg #[.slice A3 n c3, .slice A4 n c4]) (by simp [results, Try.results58, go_sem, q0, q1]) rfl ⟨_, _, _, _, rfl, hbf, hof⟩

set_option maxRecDepth 100000 in
theorem rsS_any (A : Option Addr) (n c : Nat) (f : List (List Int)) (B : Option Addr) (m d : Nat) (s : List (List Int)) (D : Option Addr) (l e : Nat) (p : List Int) (zf zg : List (List Int)) (code : Int) (kz kw : Nat) (w : World) (hz : ZArg 1048576 w A n f B m s) (hl : p.length = l) (hlb : l ≤ 1048576) (hpr : Rd w D p) (hr : RsRes f s p zf zg code) (hk : ZSz 1048576 zf kz zg kw) :
    Calls Try.prog 22 #[.agg #[.slice A n c, .slice B m d], .slice D l e] w (WPost 25 2 kz kw zf zg code w) := by
  have hnb := hz.sz.nb
  have HZ := hide hz
  have HL := hide hl
  have HFL := hide hz.sz.fl
  rcases hr with ⟨hp, hq, rfl, rfl, rfl⟩ | ⟨hp, hq, rfl, rfl, rfl⟩ | ⟨hp, rfl, rfl, rfl⟩
  · have HP := hide hp
    have HQ := hide hq.1
    have h12 := hz.small hp
    obtain rfl := hz.same hp
    obtain rfl : l = m := by rw [← hl, hq.2]; exact HFL.out
    obtain rfl : kz = l := by rw [← hk.fl, renL_length, HFL.out]
    obtain rfl : kw = kz := by rw [← hk.sl, renL_length]; exact hz.sz.sl
    have HSL := hide hz.sz.sl
    have HPI : Hid (∀ x ∈ p, 0 ≤ x ∧ x < (kw : Int)) := hide (by have := hq.1.2.2.1; rw [hl] at this; exact this)
    have hne : ((kw : Int) != (kw : Int)) = false := by simp
    clear hp hq hz hk hl
    go_enter Try.func22, Try.ntmps22
    go_wp2_with fail
    refine calls_gen fun w0 hw0 => ?_
    have hb0 : Below w.heap.size w w0 := by rw [hw0]; exact ((Below.refl _ _).alloc (Nat.le_refl _) _).alloc (by simp) _
    have HB := hide hb0
    have HK : Hid (Blk w0 w.heap.size 29 [.slice A kw c, .slice B kw d]) := hide (by rw [hw0]; exact (Blk.new _ _ _).alloc _)
    have HR : Hid (Blk w0 (w.heap.size + 1) 29 [.slice none 0 0, .slice none 0 0]) := hide (by rw [hw0]; have h := Blk.new (w.alloc (Obj.cells #[Value.slice A kw c, Value.slice B kw d] 29)) 29 [.slice none 0 0, .slice none 0 0]; simpa using h)
    clear hw0 hb0
    refine (mapS_any _ _ _ f _ _ _ s true _ (HZ.out.later HB.out) (by simp [HP.out])).mono ?_
    rintro _ wd ⟨rfl, hbd⟩
    replace HK := hide (HK.out.later hbd)
    replace HR := hide (HR.out.later hbd)
    have HB' := hide (HB.out.trans (hbd.mono HB.out.size))
    replace HB := HB'
    clear HB' hbd
    have k0 := HK.out.cell 0 _ rfl
    have k1 := HK.out.cell 1 _ rfl
    go_wp2_with fail
    clear k0 k1
    refine (prmS_below _ _ _ p true _ HL.out (by omega) (hpr.later HB.out) (by simp [HQ.out])).mono ?_
    rintro _ wd ⟨rfl, hbd⟩
    replace HK := hide (HK.out.later hbd)
    replace HR := hide (HR.out.later hbd)
    have HB' := hide (HB.out.trans (hbd.mono HB.out.size))
    replace HB := HB'
    clear HB' hbd
    have k0 := HK.out.cell 0 _ rfl
    have k1 := HK.out.cell 1 _ rfl
    go_wp2_with fail
    clear k0 k1
    refine (lrenS_any _ _ _ f _ _ s _ _ p _ (HZ.out.later HB.out) HP.out HL.out HPI.out (hpr.later HB.out)).mono ?_
    rintro _ w3 ⟨A3, c3, B3, d3, rfl, hb3, ho3⟩
    have HB3 := hide (HB.out.trans (hb3.mono HB.out.size))
    have HR3 := hide (HR.out.later hb3)
    have HO3 := hide ho3
    have k2 := HR3.out.cell 0 _ rfl
    have k3 := HR3.out.cell 1 _ rfl
    have k4 := HR3.out.frozen 0
    have k5 := HR3.out.frozen 1
    clear hb3 ho3
    go_wp2_with fail
    refine bp_gen fun wf hwf => ?_
    obtain ⟨q0, q1, hbf, hof⟩ := wend hwf HR3.out (by omega) HR.out.lt HB3.out HB.out.size HO3.out
    clear hwf k2 k3 k4 k5
    exact bodyPost_ret (v := .tuple #[.agg #[.slice A3 kw c3, .slice B3 kw d3], .int .i64 0]) (by simp [results, Try.results22, go_sem, q0, q1]) rfl ⟨_, _, _, _, rfl, hbf, hof⟩
  · have HP := hide hp
    by_cases h1 : Prm p
    · have HQ := hide h1
      have hne : ((l : Int) != (n : Int)) = true := by have h2 : ¬ p.length = f.length := fun h => hq ⟨h1, h⟩; have := HFL.out; simp; omega
      clear hp hq hz hl h1
      obtain rfl : kz = 0 := by simpa using hk.fl.symm
      obtain rfl : kw = 0 := by simpa using hk.sl.symm
      clear hk
      go_enter Try.func22, Try.ntmps22
      go_wp2_with fail
      refine calls_gen fun w0 hw0 => ?_
      have hb0 : Below w.heap.size w w0 := by rw [hw0]; exact ((Below.refl _ _).alloc (Nat.le_refl _) _).alloc (by simp) _
      have HB := hide hb0
      have HK : Hid (Blk w0 w.heap.size 29 [.slice A n c, .slice B m d]) := hide (by rw [hw0]; exact (Blk.new _ _ _).alloc _)
      have HR : Hid (Blk w0 (w.heap.size + 1) 29 [.slice none 0 0, .slice none 0 0]) := hide (by rw [hw0]; have h := Blk.new (w.alloc (Obj.cells #[Value.slice A n c, Value.slice B m d] 29)) 29 [.slice none 0 0, .slice none 0 0]; simpa using h)
      clear hw0 hb0
      refine (mapS_any _ _ _ f _ _ _ s true _ (HZ.out.later HB.out) (by simp [HP.out])).mono ?_
      rintro _ wd ⟨rfl, hbd⟩
      replace HK := hide (HK.out.later hbd)
      replace HR := hide (HR.out.later hbd)
      have HB' := hide (HB.out.trans (hbd.mono HB.out.size))
      replace HB := HB'
      clear HB' hbd
      have k0 := HK.out.cell 0 _ rfl
      have k1 := HK.out.cell 1 _ rfl
      go_wp2_with fail
      clear k0 k1
      refine (prmS_below _ _ _ p true _ HL.out (by omega) (hpr.later HB.out) (by simp [HQ.out])).mono ?_
      rintro _ wd ⟨rfl, hbd⟩
      replace HK := hide (HK.out.later hbd)
      replace HR := hide (HR.out.later hbd)
      have HB' := hide (HB.out.trans (hbd.mono HB.out.size))
      replace HB := HB'
      clear HB' hbd
      have k0 := HK.out.cell 0 _ rfl
      have k1 := HK.out.cell 1 _ rfl
      have k2 := HR.out.cell 0 _ rfl
      have k3 := HR.out.cell 1 _ rfl
      have k4 := HR.out.frozen 0
      have k5 := HR.out.frozen 1
      go_wp2_with fail
      refine bp_gen fun wf hwf => ?_
      obtain ⟨q0, q1, hbf, hof⟩ := wend (ts := 25) (t := 2) (w2 := wd) hwf HR.out (by omega) HR.out.lt HB.out HB.out.size ObjW.empty
      clear hwf k0 k1 k2 k3 k4 k5
      exact bodyPost_ret (v := .tuple #[.agg #[.slice none 0 0, .slice none 0 0], .int .i64 2]) (by simp [results, Try.results22, go_sem, q0, q1]) rfl ⟨_, _, _, _, rfl, hbf, hof⟩
    · have HQ := hide h1
      clear hp hq hz hl h1
      obtain rfl : kz = 0 := by simpa using hk.fl.symm
      obtain rfl : kw = 0 := by simpa using hk.sl.symm
      clear hk
      go_enter Try.func22, Try.ntmps22
      go_wp2_with fail
      refine calls_gen fun w0 hw0 => ?_
      have hb0 : Below w.heap.size w w0 := by rw [hw0]; exact ((Below.refl _ _).alloc (Nat.le_refl _) _).alloc (by simp) _
      have HB := hide hb0
      have HK : Hid (Blk w0 w.heap.size 29 [.slice A n c, .slice B m d]) := hide (by rw [hw0]; exact (Blk.new _ _ _).alloc _)
      have HR : Hid (Blk w0 (w.heap.size + 1) 29 [.slice none 0 0, .slice none 0 0]) := hide (by rw [hw0]; have h := Blk.new (w.alloc (Obj.cells #[Value.slice A n c, Value.slice B m d] 29)) 29 [.slice none 0 0, .slice none 0 0]; simpa using h)
      clear hw0 hb0
      refine (mapS_any _ _ _ f _ _ _ s true _ (HZ.out.later HB.out) (by simp [HP.out])).mono ?_
      rintro _ wd ⟨rfl, hbd⟩
      replace HK := hide (HK.out.later hbd)
      replace HR := hide (HR.out.later hbd)
      have HB' := hide (HB.out.trans (hbd.mono HB.out.size))
      replace HB := HB'
      clear HB' hbd
      have k0 := HK.out.cell 0 _ rfl
      have k1 := HK.out.cell 1 _ rfl
      go_wp2_with fail
      clear k0 k1
      refine (prmS_below _ _ _ p false _ HL.out (by omega) (hpr.later HB.out) (by simp [HQ.out])).mono ?_
      rintro _ wd ⟨rfl, hbd⟩
      replace HK := hide (HK.out.later hbd)
      replace HR := hide (HR.out.later hbd)
      have HB' := hide (HB.out.trans (hbd.mono HB.out.size))
      replace HB := HB'
      clear HB' hbd
      have k0 := HK.out.cell 0 _ rfl
      have k1 := HK.out.cell 1 _ rfl
      have k2 := HR.out.cell 0 _ rfl
      have k3 := HR.out.cell 1 _ rfl
      have k4 := HR.out.frozen 0
      have k5 := HR.out.frozen 1
      go_wp2_with fail
      refine bp_gen fun wf hwf => ?_
      obtain ⟨q0, q1, hbf, hof⟩ := wend (ts := 25) (t := 2) (w2 := wd) hwf HR.out (by omega) HR.out.lt HB.out HB.out.size ObjW.empty
      clear hwf k0 k1 k2 k3 k4 k5
      exact bodyPost_ret (v := .tuple #[.agg #[.slice none 0 0, .slice none 0 0], .int .i64 2]) (by simp [results, Try.results22, go_sem, q0, q1]) rfl ⟨_, _, _, _, rfl, hbf, hof⟩
  · have HP := hide hp
    clear hp hz hl
    obtain rfl : kz = 0 := by simpa using hk.fl.symm
    obtain rfl : kw = 0 := by simpa using hk.sl.symm
    clear hk
    go_enter Try.func22, Try.ntmps22
    go_wp2_with fail
    refine calls_gen fun w0 hw0 => ?_
    have hb0 : Below w.heap.size w w0 := by rw [hw0]; exact ((Below.refl _ _).alloc (Nat.le_refl _) _).alloc (by simp) _
    have HB := hide hb0
    have HK : Hid (Blk w0 w.heap.size 29 [.slice A n c, .slice B m d]) := hide (by rw [hw0]; exact (Blk.new _ _ _).alloc _)
    have HR : Hid (Blk w0 (w.heap.size + 1) 29 [.slice none 0 0, .slice none 0 0]) := hide (by rw [hw0]; have h := Blk.new (w.alloc (Obj.cells #[Value.slice A n c, Value.slice B m d] 29)) 29 [.slice none 0 0, .slice none 0 0]; simpa using h)
    clear hw0 hb0
    refine (mapS_any _ _ _ f _ _ _ s false _ (HZ.out.later HB.out) (by simp [HP.out])).mono ?_
    rintro _ wd ⟨rfl, hbd⟩
    replace HK := hide (HK.out.later hbd)
    replace HR := hide (HR.out.later hbd)
    have HB' := hide (HB.out.trans (hbd.mono HB.out.size))
    replace HB := HB'
    clear HB' hbd
    have k0 := HK.out.cell 0 _ rfl
    have k1 := HK.out.cell 1 _ rfl
    have k2 := HR.out.cell 0 _ rfl
    have k3 := HR.out.cell 1 _ rfl
    have k4 := HR.out.frozen 0
    have k5 := HR.out.frozen 1
    go_wp2_with fail
    refine bp_gen fun wf hwf => ?_
    obtain ⟨q0, q1, hbf, hof⟩ := wend (ts := 25) (t := 2) (w2 := wd) hwf HR.out (by omega) HR.out.lt HB.out HB.out.size ObjW.empty
    clear hwf k0 k1 k2 k3 k4 k5
    exact bodyPost_ret (v := .tuple #[.agg #[.slice none 0 0, .slice none 0 0], .int .i64 1]) (by simp [results, Try.results22, go_sem, q0, q1]) rfl ⟨_, _, _, _, rfl, hbf, hof⟩
end Go.Proofs.Ytcmoeapgpljeiaa
namespace Go.Proofs.Ytcmoeapgpljeiaa
open Go Go.RowKit
set_option maxHeartbeats 1000000

theorem own_any (b o : Nat) (n c : Nat) (xs : List Int) (w : World) (hn : xs.length = n) (hbn : n ≤ 1048576) (hb : b < w.heap.size) (hc : ∀ i, i < xs.length → w.cell? ⟨b, o + i, none⟩ = some (.int .i64 (xs.getD i 0))) :
    Calls Try.prog 116 #[.slice (some ⟨b, o, none⟩) n c] w fun e w' => ∃ v, e = .returned v ∧ Below w.heap.size w w' ∧ w'.ownsRow w.heap.size 2 1 v n (ints xs) := by
  have HN := hide hn
  have hcc := cl_cells (obj := .cells #[] 2) hc hb
  have HC := hide hcc
  clear hn hc hcc
  obtain ⟨i0, hi, hz0, hz1, hz2⟩ := info_parts clInfo
  go_enter Try.func116, Try.ntmps116
  go_wp2_with (at_builtin; refine wpList_append_own _ rfl _ _ 25 rfl w.heap.size 2 i0 (.int .i64 0) 1 8 Try.underlying25 hi hz0 hz1 hz2 rfl (by decide) _ _ _ rfl (cl_empty w 2) ⟨b, o, none⟩ n c (ints xs) rfl ?c1 HC.out ?c2 ?c3 ?c4 ?c5 ?_)
  case c1 => rw [ints_length]; have := HN.out; omega
  case c2 => intro u hu; simp [ints] at hu; obtain ⟨_, _, rfl⟩ := hu; rfl
  case c3 => unfold maxLen; omega
  case c4 => omega
  case c5 => simp
  intro v' w1 hown' hgrow _
  have HO' := hide hown'
  have HG := hide hgrow
  clear hown' hgrow
  go_wp2_with fail
  go_ret
  have h := HO'.out
  have hB : Below w.heap.size w w1 := ((Below.refl _ _).alloc (Nat.le_refl _) _).grown HG.out (by simp) (fun g hg => ((cl_empty w 2).lt g hg).1)
  exact ⟨v', rfl, hB, h⟩
end Go.Proofs.Ytcmoeapgpljeiaa
namespace Go.Proofs.Ytcmoeapgpljeiaa
open Go Go.RowKit
set_option maxHeartbeats 2000000

theorem o2Info2 : (Try.prog.info? 25).map (fun i => (i.zero, i.size, i.bytes)) = some (some (.slice none 0 0), 1, 24) := by kernel_rfl

theorem own2_any (A : Option Addr) (n c : Nat) (rows : List (List Int)) (w : World)
    (hn : rows.length = n) (h1 : 1 ≤ n) (hb : n ≤ 1048576) (hbs : ∀ i, i < rows.length → (rows.getD i []).length = n) (hr : Rd2 w A rows) :
    Calls Try.prog 122 #[.slice A n c] w fun e w' => ∃ A' c', e = .returned (.slice A' n c') ∧ Below w.heap.size w w' ∧ Obj2 25 2 w.heap.size w'.heap.size w' A' rows := by
  have HN := hide hn
  clear hn
  obtain ⟨i0, hi, hz0, hz1, hz2⟩ := info_parts o2Info2
  go_enter Try.func122, Try.ntmps122
  go_wp2_with fail
  go_loopw [3, 4] (fun v i wr => ∃ (k : Nat) (vals : List Value), k ≤ n ∧ i = .int .i64 k ∧ Below w.heap.size w wr ∧ LstV 25 2 w.heap.size wr v (rows.take k) vals ∧ w.heap.size ≤ wr.heap.size) (fun _ i _ => n - (intOf i).toNat)
  case atStart => exact ⟨0, [], Nat.zero_le _, rfl, (Below.refl _ _).alloc (Nat.le_refl _) _, by simpa using LstV.start w _ _, by simp⟩
  case round =>
    obtain ⟨k, vals, hk, rfl, hbe, hlst, hsz⟩ := hrel
    have HB := hide hbe
    have HL := hide hlst
    clear hbe hlst
    by_cases hlt : k < n
    · have hltz : (k : Int) < n := by omega
      obtain ⟨b, o, rfl, hbw, hc⟩ := hr (by have := HN.out; omega)
      obtain ⟨Ax, cx, hcell, hrd⟩ := hc k (by have := HN.out; omega)
      have hl := hbs k (by have := HN.out; omega)
      obtain ⟨r, hx'⟩ : ∃ r, r = rows.getD k [] := ⟨_, rfl⟩
      rw [← hx'] at hcell hrd hl
      rw [hl] at hcell
      have hcell' : wr.cell? ⟨b, o + k, none⟩ = some (.slice Ax n cx) := (HB.out.cell (p := ⟨b, o + k, none⟩) hbw).trans hcell
      have HX := hide hx'
      have HLL := hide hl
      obtain ⟨b2, o2, rfl, hbw2, hc2⟩ := hrd (by have := HLL.out; omega)
      have HC2 := hide hc2
      clear hx' hc hl hcell hbs hc2 hrd
      go_wp2_with fail
      refine (own_any b2 o2 n cx r _ HLL.out hb (by have := HB.out.size; omega) (fun i hi => (HB.out.cell (p := ⟨b2, o2 + i, none⟩) hbw2).trans (HC2.out i hi))).mono ?_
      rintro e w2 ⟨v2, rfl, hb2, how2⟩
      have HB2 := hide hb2
      have HOW2 := hide how2
      clear hb2 how2
      obtain ⟨A4, c4, hv4, hres4⟩ := own_shape HOW2.out
      rw [← HLL.out] at hv4
      subst hv4
      have HR4 := hide hres4.obj
      have hs4 := HB2.out.size
      have hlen : (ints r).length = n := by rw [ints_length]; exact HLL.out
      clear hres4
      have hlt0 : (rows.take k).length = k := by have := HN.out; simp; omega
      have HLT := hide hlt0
      have hown : w2.ownsRow w.heap.size 25 1 u3 k vals := by have := (HL.out.later HB2.out).own; rwa [hlt0] at this
      have HO := hide hown
      clear hown hlt0 hlen
      go_wp2_with (at_builtin; refine wpList_append_own _ rfl _ _ 22 rfl w.heap.size 25 i0 (.slice none 0 0) 1 24 Try.underlying22 hi hz0 hz1 hz2 rfl (by decide) _ _ _ rfl (HO.out.alloc _) ⟨w2.heap.size, 0, none⟩ 1 1 [.slice A4 r.length c4] rfl rfl ?c1 ?c2 ?c3 ?c4 ?c5 ?_)
      case c1 => exact rs_new
      case c2 => intro u hu; simp at hu; subst hu; rfl
      case c3 => unfold maxLen; omega
      case c4 => omega
      case c5 => simp; omega
      intro v' w3 hown' hgrow _
      have HO' := hide hown'
      have HG := hide hgrow
      clear hown' hgrow
      go_wp2_with fail
      go_roundw
      case rel =>
        have hB3 : Below w.heap.size w w3 := ((HB.out.trans (HB2.out.mono hsz)).alloc (by omega) _).grown HG.out (by simp; omega) (fun g hg => ((HO.out.alloc (.cells #[.slice A4 r.length c4] 25)).lt g hg).1)
        have hpush := LstV.push (tmp := .cells #[.slice A4 r.length c4] 25) (A := A4) (c := c4) (r := r) (w1 := w3) (v' := v') (by decide) hsz HL.out HB2.out HR4.out (by rw [HLT.out]; exact HO'.out) HG.out
        have e : rows.take (k + 1) = rows.take k ++ [r] := by
          have hl : k < rows.length := by have := HN.out; omega
          rw [List.take_succ_eq_append_getElem hl, HX.out]
          simp [hl]
        refine ⟨k + 1, vals ++ [.slice A4 r.length c4], by omega, by go_num, hB3, by rw [e]; exact hpush, by have := hB3.size; omega⟩
      case measure => simp [intOf]; omega
    · have hkn : k = n := by omega
      subst hkn
      go_wp2_with fail
      go_ret
      obtain ⟨A', c', hv, hobj⟩ := HL.out.shape
      have e : rows.take k = rows := List.take_of_length_le (by have := HN.out; omega)
      rw [e] at hv hobj
      exact ⟨A', c', by rw [← HN.out, ← hv]; rfl, HB.out, hobj⟩
end Go.Proofs.Ytcmoeapgpljeiaa
namespace Go.Proofs.Ytcmoeapgpljeiaa
open Go Go.RowKit
set_option maxHeartbeats 1000000

theorem same_any (A B : Option Addr) (n c m d : Nat) (xs ys : List Int) (r : Bool) (w : World) (hn : xs.length = n) (hm : ys.length = m) (hb : n ≤ 9223372036854775807) (hb2 : m ≤ 9223372036854775807) (hx : Rd w A xs) (hy : Rd w B ys) (hr : r = true ↔ xs = ys) :
    Calls Try.prog 101 #[.slice A n c, .slice B m d] w fun e w' => e = .returned (.bool r) ∧ Quiet w w' := by
  have HN := hide hn
  have HM := hide hm
  have HR := hide hr
  clear hr
  by_cases hnm : n = m
  · subst hnm
    clear hn hm
    go_enter Try.func101, Try.ntmps101
    go_wp2_with fail
    go_loopw [5] (fun i wr => ∃ k : Nat, k ≤ n ∧ i = .int .i64 k ∧ Quiet w wr ∧ ∀ i, i < k → xs.getD i 0 = ys.getD i 0) (fun i _ => n - (intOf i).toNat)
    case atStart => exact ⟨0, Nat.zero_le _, rfl, Quiet.refl w, fun i hi => absurd hi (Nat.not_lt_zero _)⟩
    case round =>
      obtain ⟨k, hk, rfl, hq, hall⟩ := hrel
      have HQ := hide hq
      clear hq
      have HALL := hide hall
      clear hall
      by_cases hlt : k < n
      · obtain ⟨b, o, rfl, _, hc⟩ := HQ.out.rd hx (by have := HN.out; omega)
        obtain ⟨b2, o2, rfl, _, hc2⟩ := HQ.out.rd hy (by have := HM.out; omega)
        have h1 := hc k (by have := HN.out; omega)
        have h2 := hc2 k (by have := HM.out; omega)
        obtain ⟨x, hx⟩ : ∃ x, x = xs.getD k 0 := ⟨_, rfl⟩
        obtain ⟨y, hy⟩ : ∃ y, y = ys.getD k 0 := ⟨_, rfl⟩
        rw [← hx] at h1
        rw [← hy] at h2
        have HX := hide hx
        have HY := hide hy
        clear hx hy hc hc2
        have hltz : (k : Int) < n := by omega
        by_cases hxy : x = y
        · subst hxy
          go_wp2_with fail
          go_quiet (fail)
          go_wp2_with fail
          go_roundw
          case rel =>
            refine ⟨k + 1, by omega, by go_num, HQ.out.drewN _, fun i hi => ?_⟩
            by_cases e : i = k
            · subst e; rw [← HX.out]; exact HY.out
            · exact HALL.out i (by omega)
          case measure => simp [intOf]; omega
        · have hne : (x != y) = true := by simpa using hxy
          have HNE := hide hxy
          clear hxy
          go_wp2_with fail
          go_quiet (fail)
          go_wp2_with fail
          go_ret
          have : r = false := by
            cases r
            · rfl
            · have e := HR.out.1 rfl
              subst e
              exact absurd (HX.out.trans HY.out.symm) HNE.out
          exact ⟨by subst this; rfl, by first | exact HQ.out | exact HQ.out.drewN _ | exact Quiet.refl _⟩
      · have hkn : k = n := by omega
        subst hkn
        go_wp2_with fail
        go_ret
        have this := HR.out.2 (eqList xs ys (HN.out.trans HM.out.symm) (fun i hi => HALL.out i (by have := HN.out; omega)))
        exact ⟨by subst this; rfl, by first | exact HQ.out | exact HQ.out.drewN _ | exact Quiet.refl _⟩
  · have hne : ((n : Int) != (m : Int)) = true := by simp; omega
    have HNM := hide hnm
    clear hn hm hnm
    go_enter Try.func101, Try.ntmps101
    go_wp2_with fail
    go_ret
    have : r = false := by
      cases r
      · rfl
      · have e := HR.out.1 rfl
        subst e
        exact absurd (HN.out.symm.trans HM.out) HNM.out
    exact ⟨by subst this; rfl, by first | exact HQ.out | exact HQ.out.drewN _ | exact Quiet.refl _⟩

theorem less_any (A B : Option Addr) (n c d : Nat) (xs ys : List Int) (w : World) (hn : xs.length = n) (hm : ys.length = n) (hb : n ≤ 1048576) (hx : Rd w A xs) (hy : Rd w B ys) :
    Calls Try.prog 130 #[.slice A n c, .slice B n d] w fun e w' => e = .returned (.bool (lessL xs ys)) ∧ Quiet w w' := by
  have HN := hide hn
  have HM := hide hm
  clear hn hm
  go_enter Try.func130, Try.ntmps130
  go_wp2_with fail
  go_loopw [5] (fun i wr => ∃ k : Nat, k ≤ n ∧ i = .int .i64 k ∧ Quiet w wr ∧ lessL xs ys = lessL (xs.drop k) (ys.drop k)) (fun i _ => n - (intOf i).toNat)
  case atStart => exact ⟨0, Nat.zero_le _, rfl, Quiet.refl w, rfl⟩
  case round =>
    obtain ⟨k, hk, rfl, hq, hall⟩ := hrel
    have HQ := hide hq
    have HALL := hide hall
    clear hq hall
    by_cases hlt : k < n
    · obtain ⟨b, o, rfl, _, hc⟩ := HQ.out.rd hx (by have := HN.out; omega)
      obtain ⟨b2, o2, rfl, _, hc2⟩ := HQ.out.rd hy (by have := HM.out; omega)
      have h1 := hc k (by have := HN.out; omega)
      have h2 := hc2 k (by have := HM.out; omega)
      have e1 := drop_cons xs k (by have := HN.out; omega)
      have e2 := drop_cons ys k (by have := HM.out; omega)
      obtain ⟨x, hx⟩ : ∃ x, xs.getD k 0 = x := ⟨_, rfl⟩
      obtain ⟨y, hy⟩ : ∃ y, ys.getD k 0 = y := ⟨_, rfl⟩
      rw [hx] at h1 e1
      rw [hy] at h2 e2
      have E1 := hide e1
      have E2 := hide e2
      clear hx hy hc hc2 e1 e2
      have hltz : (k : Int) < n := by omega
      by_cases hxy : x = y
      · subst hxy
        go_wp2_with fail
        go_quiet (fail)
        go_wp2_with fail
        go_roundw
        case rel =>
          refine ⟨k + 1, by omega, by go_num, HQ.out.drewN _, ?_⟩
          rw [HALL.out, E1.out, E2.out, lessL, if_pos rfl]
        case measure => simp [intOf]; omega
      · have hne : (x != y) = true := by simpa using hxy
        have HNE := hide hxy
        clear hxy
        have hres : lessL xs ys = decide (x < y) := by
          rw [HALL.out, E1.out, E2.out, lessL, if_neg HNE.out]
        have HRES := hide hres
        clear hres
        go_wp2_with fail
        go_quiet (fail)
        go_wp2_with fail
        go_quiet (fail)
        go_wp2_with fail
        go_ret
        exact ⟨by rw [HRES.out]; rfl, (HQ.out.drewN _).drewN _⟩
    · have hkn : k = n := by omega
      subst hkn
      go_wp2_with fail
      go_ret
      have h := HALL.out
      rw [List.drop_of_length_le (by have := HN.out; omega), List.drop_of_length_le (by have := HM.out; omega)] at h
      exact ⟨by rw [h]; simp [lessL], HQ.out⟩
end Go.Proofs.Ytcmoeapgpljeiaa
namespace Go.Proofs.Ytcmoeapgpljeiaa
open Go Go.RowKit
set_option maxHeartbeats 1000000

theorem less2_any (A B : Option Addr) (n c d : Nat) (xs ys : List (List Int)) (w : World) (hn : xs.length = n) (hm : ys.length = n) (hb : n ≤ 1048576) (hxs : ∀ i, i < xs.length → (xs.getD i []).length = n) (hys : ∀ i, i < ys.length → (ys.getD i []).length = n) (hx : Rd2 w A xs) (hy : Rd2 w B ys) :
    Calls Try.prog 124 #[.slice A n c, .slice B n d] w fun e w' => e = .returned (.bool (lessT xs ys)) ∧ Quiet w w' := by
  have HN := hide hn
  have HM := hide hm
  clear hn hm
  go_enter Try.func124, Try.ntmps124
  go_wp2_with fail
  go_loopw [5] (fun i wr => ∃ k : Nat, k ≤ n ∧ i = .int .i64 k ∧ Quiet w wr ∧ lessT xs ys = lessT (xs.drop k) (ys.drop k)) (fun i _ => n - (intOf i).toNat)
  case atStart => exact ⟨0, Nat.zero_le _, rfl, Quiet.refl w, rfl⟩
  case round =>
    obtain ⟨k, hk, rfl, hq, hall⟩ := hrel
    have HQ := hide hq
    have HALL := hide hall
    clear hq hall
    by_cases hlt : k < n
    · obtain ⟨b, o, rfl, _, hc⟩ := HQ.out.rd2 hx (by have := HN.out; omega)
      obtain ⟨b2, o2, rfl, _, hc2⟩ := HQ.out.rd2 hy (by have := HM.out; omega)
      obtain ⟨A1, c1, h1, r1⟩ := hc k (by have := HN.out; omega)
      obtain ⟨A2, c2, h2, r2⟩ := hc2 k (by have := HM.out; omega)
      have l1 := hxs k (by have := HN.out; omega)
      have l2 := hys k (by have := HM.out; omega)
      have e1 := drop_cons2 xs k (by have := HN.out; omega)
      have e2 := drop_cons2 ys k (by have := HM.out; omega)
      obtain ⟨x, hx⟩ : ∃ x, xs.getD k [] = x := ⟨_, rfl⟩
      obtain ⟨y, hy⟩ : ∃ y, ys.getD k [] = y := ⟨_, rfl⟩
      rw [hx] at h1 e1 r1 l1
      rw [hy] at h2 e2 r2 l2
      rw [l1] at h1
      rw [l2] at h2
      have E1 := hide e1
      have E2 := hide e2
      have L1 := hide l1
      have L2 := hide l2
      have R1 := hide r1
      have R2 := hide r2
      clear hx hy hc hc2 e1 e2 l1 l2 hxs hys r1 r2
      have hltz : (k : Int) < n := by omega
      by_cases hxy : x = y
      · subst hxy
        go_wp2_with fail
        go_quiet ((go_at_call 101; exact quiet_call (same_any _ _ _ _ _ _ x x true _ L1.out L1.out (by omega) (by omega) R1.out R2.out (by simp))))
        go_wp2_with fail
        go_roundw
        case rel =>
          refine ⟨k + 1, by omega, by go_num, HQ.out.drewN _, ?_⟩
          rw [HALL.out, E1.out, E2.out, lessT, if_pos rfl]
        case measure => simp [intOf]; omega
      · have HNE := hide hxy
        clear hxy
        have hres : lessT xs ys = lessL x y := by
          rw [HALL.out, E1.out, E2.out, lessT, if_neg HNE.out]
        have HRES := hide hres
        clear hres
        go_wp2_with fail
        go_quiet ((go_at_call 101; exact quiet_call (same_any _ _ _ _ _ _ x y false _ L1.out L2.out (by omega) (by omega) R1.out R2.out (by simp [HNE.out]))))
        obtain ⟨w5, hw5⟩ : ∃ w5, wr.drewN nq = w5 := ⟨_, rfl⟩
        have h1' : w5.cell? ⟨b, o + k, none⟩ = some (.slice A1 n c1) := by subst hw5; exact h1
        have h2' : w5.cell? ⟨b2, o2 + k, none⟩ = some (.slice A2 n c2) := by subst hw5; exact h2
        have R1' : Hid (Rd w5 A1 x) := hide (by subst hw5; exact R1.out)
        have R2' : Hid (Rd w5 A2 y) := hide (by subst hw5; exact R2.out)
        have HQ5 : Hid (Quiet w w5) := hide (by subst hw5; exact HQ.out.drewN _)
        rw [hw5]
        clear h1 h2 hw5
        go_wp2_with fail
        go_quiet ((go_at_call 130; exact quiet_call (less_any _ _ _ _ _ x y _ L1.out L2.out hb R1'.out R2'.out)))
        go_wp2_with fail
        go_ret
        exact ⟨by rw [HRES.out]; rfl, HQ5.out.drewN _⟩
    · have hkn : k = n := by omega
      subst hkn
      go_wp2_with fail
      go_ret
      have h := HALL.out
      rw [List.drop_of_length_le (by have := HN.out; omega), List.drop_of_length_le (by have := HM.out; omega)] at h
      exact ⟨by rw [h]; simp [lessT], HQ.out⟩
end Go.Proofs.Ytcmoeapgpljeiaa
namespace Go.Proofs.Ytcmoeapgpljeiaa
open Go Go.RowKit
set_option maxHeartbeats 1000000
set_option maxRecDepth 100000 in
theorem same2_any (A B : Option Addr) (n c d : Nat) (xs ys : List (List Int)) (r : Bool) (w : World) (hn : xs.length = n) (hm : ys.length = n) (hb : n ≤ 1048576) (hxs : ∀ i, i < xs.length → (xs.getD i []).length = n) (hys : ∀ i, i < ys.length → (ys.getD i []).length = n) (hx : Rd2 w A xs) (hy : Rd2 w B ys) (hr : r = true ↔ xs = ys) :
    Calls Try.prog 123 #[.slice A n c, .slice B n d] w fun e w' => e = .returned (.bool r) ∧ Quiet w w' := by
  have HN := hide hn
  have HM := hide hm
  have HR := hide hr
  have hne : ((n : Int) != (n : Int)) = false := by simp
  clear hn hm hr
  go_enter Try.func123, Try.ntmps123
  go_wp2_with fail
  go_loopw [5] (fun i wr => ∃ k : Nat, k ≤ n ∧ i = .int .i64 k ∧ Quiet w wr ∧ xs.take k = ys.take k) (fun i _ => n - (intOf i).toNat)
  case atStart => exact ⟨0, Nat.zero_le _, rfl, Quiet.refl w, by simp⟩
  case round =>
    obtain ⟨k, hk, rfl, hq, hall⟩ := hrel
    have HQ := hide hq
    have HALL := hide hall
    clear hq hall
    by_cases hlt : k < n
    · obtain ⟨b, o, rfl, _, hc⟩ := HQ.out.rd2 hx (by have := HN.out; omega)
      obtain ⟨b2, o2, rfl, _, hc2⟩ := HQ.out.rd2 hy (by have := HM.out; omega)
      obtain ⟨A1, c1, h1, r1⟩ := hc k (by have := HN.out; omega)
      obtain ⟨A2, c2, h2, r2⟩ := hc2 k (by have := HM.out; omega)
      have l1 := hxs k (by have := HN.out; omega)
      have l2 := hys k (by have := HM.out; omega)
      obtain ⟨x, hx⟩ : ∃ x, xs.getD k [] = x := ⟨_, rfl⟩
      obtain ⟨y, hy⟩ : ∃ y, ys.getD k [] = y := ⟨_, rfl⟩
      rw [hx] at h1 r1 l1
      rw [hy] at h2 r2 l2
      rw [l1] at h1
      rw [l2] at h2
      have HX := hide hx
      have HY := hide hy
      have L1 := hide l1
      have L2 := hide l2
      have R1 := hide r1
      have R2 := hide r2
      clear hx hy hc hc2 l1 l2 hxs hys r1 r2
      have hltz : (k : Int) < n := by omega
      by_cases hxy : x = y
      · subst hxy
        go_wp2_with fail
        go_quiet ((go_at_call 101; exact quiet_call (same_any _ _ _ _ _ _ x x true _ L1.out L1.out (by omega) (by omega) R1.out R2.out (by simp))))
        go_wp2_with fail
        go_roundw
        case rel =>
          refine ⟨k + 1, by omega, by go_num, HQ.out.drewN _, ?_⟩
          have e1 : k < xs.length := by have := HN.out; omega
          have e2 : k < ys.length := by have := HM.out; omega
          have q1 := HX.out
          have q2 := HY.out
          rw [List.getD_eq_getElem?_getD, List.getElem?_eq_getElem e1] at q1
          rw [List.getD_eq_getElem?_getD, List.getElem?_eq_getElem e2] at q2
          rw [List.take_succ_eq_append_getElem e1, List.take_succ_eq_append_getElem e2, HALL.out, show xs[k] = _ from q1, show ys[k] = _ from q2]
        case measure => simp [intOf]; omega
      · have HNE := hide hxy
        have hrf : r = false := by
          cases r
          · rfl
          · exact absurd (by rw [← HX.out, ← HY.out, HR.out.1 rfl]) hxy
        subst hrf
        clear hxy
        go_wp2_with fail
        go_quiet ((go_at_call 101; exact quiet_call (same_any _ _ _ _ _ _ x y false _ L1.out L2.out (by omega) (by omega) R1.out R2.out (by simp [HNE.out]))))
        go_wp2_with fail
        go_ret
        exact ⟨rfl, HQ.out.drewN _⟩
    · have hkn : k = n := by omega
      subst hkn
      have hrt : r = true := HR.out.2 (by
        have h := HALL.out
        rw [List.take_of_length_le (by have := HN.out; omega), List.take_of_length_le (by have := HM.out; omega)] at h
        exact h)
      subst hrt
      go_wp2_with fail
      go_ret
      exact ⟨rfl, HQ.out⟩
end Go.Proofs.Ytcmoeapgpljeiaa
namespace Go.Proofs.Ytcmoeapgpljeiaa
open Go Go.RowKit
set_option maxHeartbeats 2000000

theorem gsInfo : (Try.prog.info? 2).map (fun i => (i.zero, i.size, i.bytes)) = some (some (.int .i64 0), 1, 8) := by kernel_rfl
theorem gsInfo2 : (Try.prog.info? 25).map (fun i => (i.zero, i.size, i.bytes)) = some (some (.slice none 0 0), 1, 24) := by kernel_rfl
theorem gs_new {w : World} {v : Value} {t : TypeId} : ∀ j u, [v][j]? = some u → (w.alloc (.cells #[v] t)).cell? ((⟨w.heap.size, 0, none⟩ : Addr).add j) = some u := by
  intro j u hj
  match j, hj with
  | 0, hj => simp at hj; subst hj; simp [Addr.add, World.cell?_alloc_new]

/-- What the elements below x have brought. -/
def growTo (n f : Nat) (st : List Int) (x : Nat) : List (List Int) := (List.range x).flatMap fun (y : Nat) => if st.contains (Int.ofNat y) then [] else growS n f (st ++ [Int.ofNat y])
theorem growTo_succ (n f : Nat) (st : List Int) (x : Nat) : growTo n f st (x + 1) = growTo n f st x ++ (if st.contains (Int.ofNat x) then [] else growS n f (st ++ [Int.ofNat x])) := by
  unfold growTo
  rw [List.range_succ, List.flatMap_append]
  simp
theorem growTo_le (n f : Nat) (st : List Int) (x y : Nat) (h : x ≤ y) : (growTo n f st x).length ≤ (growTo n f st y).length := by
  induction y with
  | zero =>
    obtain rfl : x = 0 := by omega
    exact Nat.le_refl _
  | succ y ih =>
    by_cases e : x = y + 1
    · subst e; exact Nat.le_refl _
    · have := ih (by omega)
      rw [growTo_succ, List.length_append]
      omega

/-- What the call leaves: the list, grown. -/
def GrowPost (ts t : TypeId) (B : Nat) (rows : List (List Int)) (w : World) (e : Ending) (w' : World) : Prop :=
  ∃ v' vals', e = .returned v' ∧ KeepT t w w' ∧ Below B w w' ∧ B ≤ w'.heap.size ∧ LstV ts t B w' v' rows vals'

theorem grow_any (B : Nat) (f : Nat) : ∀ (n m c a : Nat) (st : List Int) (v : Value) (rows : List (List Int)) (vals : List Value) (w : World), st.length = m → m + f = n → n ≤ 12 → B ≤ w.heap.size →
    Obj1 2 B w.heap.size w (some ⟨a, 0, none⟩) st → LstV 25 2 B w v rows vals → (∀ (i : Nat) (u : Value) (g : Nat), vals[i]? = some u → u.ownBlock = some g → a ≠ g) → rows.length + (growS n f st).length ≤ 1048576 →
    Calls Try.prog 121 #[.int .i64 n, .slice (some ⟨a, 0, none⟩) m c, v] w (GrowPost 25 2 B (rows ++ growS n f st) w) := by
  induction f with
  | zero =>
    intro n m c a st v rows vals w hst hmn hn hB hobj hlst hdis hle
    obtain ⟨i0, hi, hz0, hz1, hz2⟩ := info_parts gsInfo2
    have hmn' : m = n := by omega
    subst hmn'
    have HST := hide hst
    have HO := hide hobj
    have HL := hide hlst
    have HD := hide hdis
    have hr : rows.length + 1 ≤ 1048576 := by simpa [growS] using hle
    have heq : ((m : Int) == (m : Int)) = true := by simp
    have hal : Below w.heap.size w (w.alloc (.cells #[.slice (some ⟨a, 0, none⟩) m c] 25)) := (Below.refl _ _).alloc (Nat.le_refl _) _
    have HAL := hide hal
    have hown := ownsRow_below HL.out.own hal
    have HOW := hide hown
    clear hst hobj hlst hdis hle hal hown hmn
    go_enter Try.func121, Try.ntmps121
    go_wp2_with (at_builtin; refine wpList_append_own _ rfl _ _ 22 rfl B 25 i0 (.slice none 0 0) 1 24 Try.underlying22 hi hz0 hz1 hz2 rfl (by decide) _ _ _ rfl HOW.out ⟨w.heap.size, 0, none⟩ 1 1 [.slice (some ⟨a, 0, none⟩) m c] rfl rfl ?c1 ?c2 ?c3 ?c4 ?c5 ?_)
    case c1 => exact gs_new
    case c2 => intro u hu; simp at hu; subst hu; rfl
    case c3 => unfold maxLen; omega
    case c4 => omega
    case c5 => simp; omega
    intro v' w1 hown' hgrow _
    have HO' := hide hown'
    have HG := hide hgrow
    clear hown' hgrow
    go_wp2_with fail
    go_ret
    have hB1 : Below B w w1 := (HAL.out.mono hB).grown HG.out (by simp; omega) (fun g hg => (HOW.out.lt g hg).1)
    have hk : KeepT 2 w w1 := (KeepT.of_below HAL.out).trans (KeepT.of_grown (by decide) HOW.out HG.out)
    have hpush := LstV.push2 (tmp := .cells #[.slice (some ⟨a, 0, none⟩) m c] 25) (A := some ⟨a, 0, none⟩) (c := c) (r := st) (w1 := w1) (v' := v') (by decide) HL.out HO.out (fun i u g hu hg b hb => by cases hb; exact HD.out i u g hu hg) (by rw [HST.out]; exact HO'.out) HG.out
    exact ⟨v', _, rfl, hk, hB1, Nat.le_trans hB hB1.size, hpush⟩
  | succ f ih =>
    intro n m c a st v rows vals w hst hmn hn hB hobj hlst hdis hle
    obtain ⟨i1, hi1, hy0, hy1, hy2⟩ := info_parts gsInfo
    have HST := hide hst
    have HO := hide hobj
    have HL := hide hlst
    have heq : ((m : Int) == (n : Int)) = false := by simp; omega
    have hleT : rows.length + (growTo n f st n).length ≤ 1048576 := hle
    have HLE := hide hleT
    have HIH := hide ih
    have hmn' : m < n := by omega
    have HMN := hide hmn
    clear hst hobj hlst hdis hle hleT ih hmn
    go_enter Try.func121, Try.ntmps121
    go_wp2_with fail
    go_loopw [2, 7] (fun v i wr => ∃ (x : Nat) (vals : List Value), x ≤ n ∧ i = .int .i64 x ∧ KeepT 2 w wr ∧ Below B w wr ∧ B ≤ wr.heap.size ∧ w.heap.size ≤ wr.heap.size ∧ LstV 25 2 B wr v (rows ++ growTo n f st x) vals) (fun _ i _ => n - (intOf i).toNat)
    case atStart => exact ⟨0, vals, Nat.zero_le _, rfl, KeepT.refl _ _, Below.refl _ _, hB, Nat.le_refl _, by simpa [growTo] using HL.out⟩
    case round =>
      obtain ⟨x, vals2, hx, rfl, hk, hbe, hBr, hsz, hlst⟩ := hrel
      have HK := hide hk
      have HBE := hide hbe
      have HL2 := hide hlst
      clear hk hbe hlst
      by_cases hlt : x < n
      · have hltz : (x : Int) < n := by omega
        have hst2 := HK.out.obj HO.out
        have HST2 := hide (hst2.mono (Nat.le_refl _) hsz)
        clear hst2
        by_cases hm : (x : Int) ∈ st
        · have HM := hide hm
          clear hm
          go_wp2_with fail
          refine (has_any _ _ _ st _ true _ HST.out (by omega) HST2.out.rd (by simp [HM.out])).mono ?_
          rintro e w2 ⟨rfl, hq2⟩
          have HQ2 := hide hq2
          clear hq2
          go_wp2_with fail
          go_roundw
          case rel =>
            obtain ⟨q, rfl⟩ := HQ2.out
            have e : growTo n f st (x + 1) = growTo n f st x := by
              rw [growTo_succ, if_pos (by rw [List.contains_iff_mem]; exact HM.out), List.append_nil]
            exact ⟨x + 1, vals2, by omega, by go_num, fun k cur h => HK.out k cur h, (HBE.out.trans ((Quiet.of wr q).below B)), hBr, hsz, by rw [e]; exact ⟨HL2.out.own, HL2.out.row, HL2.out.ne⟩⟩
          case measure => simp [intOf]; omega
        · have HM := hide hm
          clear hm
          go_wp2_with fail
          refine (has_any _ _ _ st _ false _ HST.out (by omega) HST2.out.rd (by simp [HM.out])).mono ?_
          rintro e w2 ⟨rfl, hq2⟩
          have HQ2 := hide hq2
          have HST3 := hide (HST2.out.later (hq2.below _))
          have HL3 := hide (HL2.out.later (hq2.below _))
          have hsz2 : wr.heap.size ≤ w2.heap.size := by rw [hq2.size]; exact Nat.le_refl _
          clear hq2
          have hrd := HST3.out.rd
          have hcells : ∀ i, i < st.length → w2.cell? ⟨a, 0 + i, none⟩ = some (.int .i64 (st.getD i 0)) := fun i hi => by
            obtain ⟨b, o, e, _, hc⟩ := hrd (by omega)
            cases e
            exact hc i hi
          have hab : a < w2.heap.size := Nat.lt_of_lt_of_le (HST3.out.bounds _ rfl).2 (by omega)
          have HC := hide hcells
          clear hrd hcells
          go_wp2_with fail
          refine (own_any a 0 m c st _ HST.out (by omega) hab HC.out).mono ?_
          rintro e w3 ⟨v3, rfl, hb3, ho3⟩
          have HB3 := hide hb3
          have HO3 := hide ho3
          have hs3 := hb3.size
          clear hb3 ho3
          go_wp2_with (at_builtin; refine wpList_append_own _ rfl _ _ 25 rfl w2.heap.size 2 i1 (.int .i64 0) 1 8 Try.underlying25 hi1 hy0 hy1 hy2 rfl (by decide) _ _ _ rfl (HO3.out.alloc _) ⟨w3.heap.size, 0, none⟩ 1 1 [.int .i64 (x : Int)] rfl rfl ?c1 ?c2 ?c3 ?c4 ?c5 ?_)
          case c1 => exact gs_new
          case c2 => intro u hu; simp at hu; subst hu; rfl
          case c3 => unfold maxLen; omega
          case c4 => omega
          case c5 => simp; omega
          intro v4 w4 hown' hgrow hnn
          have HO4 := hide hown'
          have HG4 := hide hgrow
          have e4 : ints st ++ [.int .i64 (x : Int)] = ints (st ++ [(x : Int)]) := by simp [ints]
          have hown2 := hown'
          rw [e4] at hown2
          have hB4 : Below w2.heap.size w2 w4 := (HB3.out.alloc (by omega) _).grown HG4.out (by simp; omega) (fun g hg => ((HO3.out.alloc (.cells #[.int .i64 (x : Int)] 2)).lt g hg).1)
          have HB4 := hide hB4
          have hs4 := hB4.size
          obtain ⟨A4, c4, hv4, hres4⟩ := own_shape hown2
          have hobj4 := hres4.obj
          rcases hobj4 with ⟨_, e⟩ | ⟨a4, e, ha4, ha5, hob4⟩
          · simp at e
          · subst e
            have HOB4 : Hid (Obj1 2 w2.heap.size w4.heap.size w4 (some ⟨a4, 0, none⟩) (st ++ [(x : Int)])) := hide (.inr ⟨a4, rfl, ha4, ha5, hob4⟩)
            have HL4 := hide (HL3.out.later HB4.out)
            have HK4 := hide ((KeepT.of_below (t := 2) HB4.out))
            rw [hv4]
            clear hown' hgrow hnn hown2 hB4 hres4 hob4 hv4 e4
            go_wp2_with fail
            have hls : (st ++ [(x : Int)]).length = m + 1 := by have := HST.out; simp; omega
            have hg1 := growTo_succ n f st x
            have hcon : st.contains (Int.ofNat x) = false := by
              have h := HM.out
              cases hc : st.contains (Int.ofNat x)
              · rfl
              · rw [List.contains_iff_mem] at hc
                exact absurd hc h
            rw [hcon] at hg1
            have hg2 := growTo_le n f st (x + 1) n (by omega)
            have hbound : (rows ++ growTo n f st x).length + (growS n f (st ++ [(x : Int)])).length ≤ 1048576 := by
              have h := HLE.out
              have e2 : (growTo n f st (x + 1)).length = (growTo n f st x).length + (growS n f (st ++ [(x : Int)])).length := by
                rw [hg1, List.length_append]
                rfl
              rw [List.length_append]
              omega
            refine (HIH.out n (m + 1) c4 a4 (st ++ [(x : Int)]) u2 (rows ++ growTo n f st x) vals2 w4 hls (by have := HMN.out; omega) hn (by omega) (HOB4.out.mono (by omega) (Nat.le_refl _)) HL4.out (fun i u g hu hg => by have := HL3.out.low i u g hu hg; omega) hbound).mono ?_
            rintro e w5 ⟨v5, vals5, rfl, hk5, hb5, hB5, hl5⟩
            have HK5 := hide hk5
            have HB5 := hide hb5
            have HL5 := hide hl5
            have HG1 := hide hg1
            have hkk : KeepT 2 wr w2 := KeepT.of_below (HQ2.out.below _)
            have HKK := hide hkk
            clear hk5 hb5 hl5 hg1 hg2 hbound hls hcon hkk
            go_wp2_with fail
            go_roundw
            case rel =>
              have e : rows ++ growTo n f st (x + 1) = (rows ++ growTo n f st x) ++ growS n f (st ++ [(x : Int)]) := by
                rw [HG1.out, List.append_assoc]
                rfl
              exact ⟨x + 1, vals5, by omega, by go_num, ((HK.out.trans HKK.out).trans HK4.out).trans HK5.out, ((HBE.out.trans (HQ2.out.below B)).trans (HB4.out.mono (by omega))).trans HB5.out, hB5, by have := HB5.out.size; omega, by rw [e]; exact HL5.out⟩
            case measure => simp [intOf]; omega
      · have hxn : x = n := by omega
        subst hxn
        go_wp2_with fail
        go_ret
        exact ⟨_, vals2, rfl, HK.out, HBE.out, hBr, HL2.out⟩
end Go.Proofs.Ytcmoeapgpljeiaa
namespace Go.Proofs.Ytcmoeapgpljeiaa
open Go Go.RowKit
set_option maxHeartbeats 2000000

theorem l01Perms_any (n : Nat) (w : World) (h1 : 1 ≤ n) (h7 : n ≤ 7) :
    Calls Try.prog 109 #[.int .i64 n] w fun e w' => ∃ A' c', e = .returned (.slice A' (permsS n).length c') ∧ Below w.heap.size w w' ∧ Obj2 25 2 w.heap.size w'.heap.size w' A' (permsS n) := by
  have HP := hide (perms_all n h1 h7)
  go_enter Try.func109, Try.ntmps109
  go_wp2_with fail
  have hal : Below w.heap.size w ((w.alloc (.cells #[] 2)).alloc (.cells #[] 25)) := ((Below.refl _ _).alloc (Nat.le_refl _) _).alloc (by simp) _
  have HAL := hide hal
  have hlst : LstV 25 2 w.heap.size ((w.alloc (.cells #[] 2)).alloc (.cells #[] 25)) (.slice (some ⟨w.heap.size + 1, 0, none⟩) 0 0) [] [] := by
    have h := LstV.start (w.alloc (.cells #[] 2)) 25 2
    obtain ⟨h1, h2, h3⟩ := h
    obtain ⟨h4, h5⟩ := h1
    refine ⟨⟨h4, ?_⟩, fun i hi => by simp at hi, fun i j u u' g _ hu => by simp at hu⟩
    rcases h5 with ⟨h5, _⟩ | ⟨g, cap, cur, hv, hg, r⟩
    · cases h5
    · exact .inr ⟨g, cap, cur, by simpa using hv, by simp at hg; omega, r⟩
  have HL := hide hlst
  have hob : Obj1 2 w.heap.size ((w.alloc (.cells #[] 2)).alloc (.cells #[] 25)).heap.size ((w.alloc (.cells #[] 2)).alloc (.cells #[] 25)) (some ⟨w.heap.size, 0, none⟩) [] :=
    .inr ⟨w.heap.size, rfl, Nat.le_refl _, by simp; omega, #[], (Below.heap_alloc _ _ _ (by simp)).trans (heap_alloc_new _ _), fun i hi => by simp at hi⟩
  have HO := hide hob
  clear hal hlst hob
  refine (grow_any w.heap.size n n 0 0 w.heap.size [] _ [] [] _ rfl (by omega) (by omega) (by simp; omega) HO.out HL.out (fun i u g hu => by simp at hu) (by have := HP.out.most; show 0 + (permsS n).length ≤ _; omega)).mono ?_
  rintro e w1 ⟨v', vals', rfl, hk, hb, hB, hl⟩
  have HL1 := hide hl
  have HB1 := hide hb
  clear hk hb hl
  go_wp2_with fail
  go_ret
  obtain ⟨A', c', hv, hobj⟩ := HL1.out.shape
  exact ⟨A', c', by rw [show [] ++ growS n n [] = permsS n from rfl] at hv; rw [← hv]; rfl, HAL.out.trans HB1.out, hobj⟩
end Go.Proofs.Ytcmoeapgpljeiaa
namespace Go.Proofs.Ytcmoeapgpljeiaa
open Go Go.RowKit
set_option maxHeartbeats 4000000

theorem lownS_any (A : Option Addr) (n c : Nat) (f : List (List Int)) (B : Option Addr) (d : Nat) (s : List (List Int)) (w : World) (hz : ZArg 1048576 w A n f B n s) (hp : PMap f s) :
    Calls Try.prog 110 #[.agg #[.slice A n c, .slice B n d]] w fun e w' => ∃ A' c' B' d', e = .returned (.agg #[.slice A' n c', .slice B' n d']) ∧ Below w.heap.size w w' ∧ ObjW 25 2 w.heap.size w'.heap.size w' A' f B' s := by
  have HZ := hide hz
  have HP := hide hp
  have h12 := hz.small hp
  clear hz hp
  go_enter Try.func110, Try.ntmps110
  go_wp2_with fail
  refine wp_gen fun w0 hw0 => ?_
  have hb0 : Below w.heap.size w w0 := by rw [hw0]; exact ((Below.refl _ _).alloc (Nat.le_refl _) _).alloc (by simp) _
  have HBc := hide hb0
  have HK : Hid (Blk w0 w.heap.size 29 [.slice A n c, .slice B n d]) := hide (by rw [hw0]; exact (Blk.new _ _ _).alloc _)
  have HR : Hid (Blk w0 (w.heap.size + 1) 29 [.slice none 0 0, .slice none 0 0]) := hide (by rw [hw0]; have h := Blk.new (w.alloc (Obj.cells #[Value.slice A n c, Value.slice B n d] 29)) 29 [.slice none 0 0, .slice none 0 0]; simpa using h)
  clear hw0 hb0
  have k0 := HK.out.cell 0 _ rfl
  have k1 := HK.out.cell 1 _ rfl
  have k2 := HR.out.cell 0 _ rfl
  have k3 := HR.out.cell 1 _ rfl
  have k4 := HR.out.frozen 0
  have k5 := HR.out.frozen 1
  have tok1 : True := trivial
  go_region_held3 (fun w' => w'.cell? ⟨w.heap.size, 0, none⟩ = some (.slice A n c) ∧ w'.cell? ⟨w.heap.size, 1, none⟩ = some (.slice B n d)) (first | exact ⟨k0, k1⟩ | go_keep) (first | (go_at_call 122; have _t := tok1; clear _t tok1; go_must (refine calls_gen fun wc hwc => ?_; (first | have hbx := drew_below hwc | have hbx := eq_below hwc); replace HBc := hide (HBc.out.trans (hbx.mono HBc.out.size)); replace HK := hide (HK.out.later hbx); replace HR := hide (HR.out.later hbx); clear hwc hbx; have hrl := HR.out.lt; refine (own2_any _ n _ f _ HZ.out.sz.fl h12.1 (by omega) (fun i hi => HP.out.1.row_len HZ.out.sz.fl (by have := HZ.out.sz.fl; omega)) (HZ.out.later HBc.out).fst).mono ?_; rintro e wd ⟨A3, c3, rfl, hbd, ho3⟩; replace HBc := hide (HBc.out.trans (hbd.mono HBc.out.size)); replace HK := hide (HK.out.later hbd); replace HR := hide (HR.out.later hbd); clear hbd; have k0 := HK.out.cell 0 _ rfl; have k1 := HK.out.cell 1 _ rfl; have k2 := HR.out.cell 0 _ rfl; have k3 := HR.out.cell 1 _ rfl; have HO3 := hide (ObjT.of (lo' := w.heap.size + 1 + 1) ho3 hrl (Nat.le_refl _)); clear ho3 hrl; have k4 := HR.out.frozen 0; have k5 := HR.out.frozen 1)) | (go_at_call 122; go_must (refine calls_gen fun wc hwc => ?_; (first | have hbx := drew_below hwc | have hbx := eq_below hwc); replace HBc := hide (HBc.out.trans (hbx.mono HBc.out.size)); replace HK := hide (HK.out.later hbx); replace HR := hide (HR.out.later hbx); replace HO3 := hide (HO3.out.later hbx); clear hwc hbx; have hrl := HR.out.lt; refine (own2_any _ n _ s _ HZ.out.sz.sl h12.1 (by omega) (fun i hi => HP.out.2.1.row_len HZ.out.sz.sl (by have := HZ.out.sz.sl; omega)) (HZ.out.later HBc.out).snd).mono ?_; rintro e wd ⟨A4, c4, rfl, hbd, ho4⟩; replace HBc := hide (HBc.out.trans (hbd.mono HBc.out.size)); replace HK := hide (HK.out.later hbd); replace HR := hide (HR.out.later hbd); replace HO3 := hide (HO3.out.later hbd); clear hbd; have k0 := HK.out.cell 0 _ rfl; have k1 := HK.out.cell 1 _ rfl; have k2 := HR.out.cell 0 _ rfl; have k3 := HR.out.cell 1 _ rfl; have HO4 := hide (ObjT.of (lo' := w.heap.size + 1 + 1) ho4 hrl (Nat.le_refl _)); clear ho4 hrl; have k4 := HR.out.frozen 0; have k5 := HR.out.frozen 1)))
  go_wp2_with fail
  refine bp_gen fun wf hwf => ?_
  obtain ⟨q0, q1, hbf, hof⟩ := wend2 hwf HR.out (by omega) HBc.out HO3.out HO4.out
  clear hwf k0 k1 k2 k3 k4 k5
  exact bodyPost_ret (v := .agg #[.slice A3 n c3, .slice A4 n c4]) (by simp [results, Try.results110, go_sem, q0, q1]) rfl ⟨_, _, _, _, rfl, hbf, hof⟩

theorem beforeS_any (A B C D : Option Addr) (n c d c2 d2 : Nat) (f s g t : List (List Int)) (r : Bool) (w : World) (hn : n ≤ 1048576) (hf : Sq f n) (hs : Sq s n) (hg : Sq g n) (ht : Sq t n) (rf : Rd2 w A f) (rs : Rd2 w B s) (rg : Rd2 w C g) (rt : Rd2 w D t) (hr : lessZ f s g t = r) :
    Calls Try.prog 111 #[.agg #[.slice A n c, .slice B n d], .agg #[.slice C n c2, .slice D n d2]] w fun e w' => e = .returned (.bool r) ∧ Below w.heap.size w w' := by
  have Qf := hide hf
  have Qs := hide hs
  have Qg := hide hg
  have Qt := hide ht
  have Rf := hide rf
  have Rs := hide rs
  have Rg := hide rg
  have Rt := hide rt
  have HRR := hide hr
  clear hf hs hg ht rf rs rg rt hr
  have lf : ∀ i, i < f.length → (f.getD i []).length = n := fun i hi => Qf.out.2 i (by rw [Qf.out.1] at hi; exact hi)
  have lg : ∀ i, i < g.length → (g.getD i []).length = n := fun i hi => Qg.out.2 i (by rw [Qg.out.1] at hi; exact hi)
  have ls : ∀ i, i < s.length → (s.getD i []).length = n := fun i hi => Qs.out.2 i (by rw [Qs.out.1] at hi; exact hi)
  have lt : ∀ i, i < t.length → (t.getD i []).length = n := fun i hi => Qt.out.2 i (by rw [Qt.out.1] at hi; exact hi)
  have LF := hide lf
  have LG := hide lg
  have LS := hide ls
  have LT := hide lt
  clear lf lg ls lt
  obtain ⟨b, hb⟩ := bool_of (f = g)
  have HBB := hide hb
  clear hb
  go_enter Try.func111, Try.ntmps111
  go_wp2_with fail
  refine calls_gen fun w0 hw0 => ?_
  have HB0 : Hid (Below w.heap.size w w0) := hide (by rw [hw0]; exact ((Below.refl _ _).alloc (Nat.le_refl _) _).alloc (by simp) _)
  have HK0 : Hid (Blk w0 w.heap.size 29 [.slice A n c, .slice B n d]) := hide (by rw [hw0]; exact (Blk.new _ _ _).alloc _)
  have HJ0 : Hid (Blk w0 (w.heap.size + 1) 29 [.slice C n c2, .slice D n d2]) := hide (by rw [hw0]; have h := Blk.new (w.alloc (Obj.cells #[Value.slice A n c, Value.slice B n d] 29)) 29 [.slice C n c2, .slice D n d2]; simpa using h)
  clear hw0
  refine (same2_any _ _ n _ _ f g b _ Qf.out.1 Qg.out.1 hn LF.out LG.out (Rf.out.later HB0.out) (Rg.out.later HB0.out) HBB.out).mono ?_
  rintro e w1 ⟨rfl, hq1⟩
  have hb1 := hq1.below w0.heap.size
  have HB1 := hide (HB0.out.trans (hb1.mono HB0.out.size))
  have HK1 := hide (HK0.out.later hb1)
  have HJ1 := hide (HJ0.out.later hb1)
  have k0 := HK1.out.cell 0 _ rfl
  have k1 := HK1.out.cell 1 _ rfl
  have k2 := HJ1.out.cell 0 _ rfl
  have k3 := HJ1.out.cell 1 _ rfl
  clear hq1 hb1
  cases b
  · have hfg : ¬ f = g := fun h => by have := HBB.out.2 h; cases this
    have HE : Hid (lessT f g = r) := hide (by rw [← HRR.out]; unfold lessZ; rw [if_neg hfg])
    clear hfg
    go_wp2_with fail
    refine (less2_any _ _ n _ _ f g _ Qf.out.1 Qg.out.1 hn LF.out LG.out (Rf.out.later HB1.out) (Rg.out.later HB1.out)).mono ?_
    rintro e w2 ⟨rfl, hq2⟩
    rw [HE.out]
    have HB2 := hide (HB1.out.trans (hq2.below _))
    clear hq2 k0 k1 k2 k3
    go_wp2_with fail
    go_ret
    exact ⟨rfl, HB2.out⟩
  · have hfg : f = g := HBB.out.1 rfl
    have HE : Hid (lessT s t = r) := hide (by rw [← HRR.out]; unfold lessZ; rw [if_pos hfg])
    clear hfg
    go_wp2_with fail
    refine (less2_any _ _ n _ _ s t _ Qs.out.1 Qt.out.1 hn LS.out LT.out (Rs.out.later HB1.out) (Rt.out.later HB1.out)).mono ?_
    rintro e w2 ⟨rfl, hq2⟩
    rw [HE.out]
    have HB2 := hide (HB1.out.trans (hq2.below _))
    clear hq2 k0 k1 k2 k3
    go_wp2_with fail
    go_ret
    exact ⟨rfl, HB2.out⟩
end Go.Proofs.Ytcmoeapgpljeiaa
namespace Go.Proofs.Ytcmoeapgpljeiaa
open Go Go.RowKit
section
variable {ts t tz : TypeId} {wj wx w1 : World} {A B : Option Addr} {f s : List (List Int)} {kz kw c d : Nat}
/-- A result that is laid into a new box behind the call. -/
theorem cutW_new (hb : Below wj.heap.size wj wx) (ho : ObjW ts t w1.heap.size wx.heap.size wx A f B s) (hlo : wj.heap.size ≤ w1.heap.size) :
    Below wj.heap.size wj (wx.alloc (.cells #[.slice A kz c, .slice B kw d] tz)) ∧ ObjW ts t wj.heap.size (wx.alloc (.cells #[.slice A kz c, .slice B kw d] tz)).heap.size (wx.alloc (.cells #[.slice A kz c, .slice B kw d] tz)) A f B s ∧ Blk (wx.alloc (.cells #[.slice A kz c, .slice B kw d] tz)) wx.heap.size tz [.slice A kz c, .slice B kw d] ∧ wx.heap.size < (wx.alloc (.cells #[.slice A kz c, .slice B kw d] tz)).heap.size :=
  ⟨hb.alloc hb.size _, (ho.later ((Below.refl _ _).alloc (Nat.le_refl _) _)).mono hlo (by simp), Blk.new _ _ _, by simp⟩
theorem cutZ_new (hb : Below wj.heap.size wj wx) (ho : ObjZ ts t w1.heap.size wx.heap.size wx A f B s) (hlo : wj.heap.size ≤ w1.heap.size) :
    Below wj.heap.size wj (wx.alloc (.cells #[.slice A kz c, .slice B kw d] tz)) ∧ ObjZ ts t wj.heap.size (wx.alloc (.cells #[.slice A kz c, .slice B kw d] tz)).heap.size (wx.alloc (.cells #[.slice A kz c, .slice B kw d] tz)) A f B s ∧ Blk (wx.alloc (.cells #[.slice A kz c, .slice B kw d] tz)) wx.heap.size tz [.slice A kz c, .slice B kw d] ∧ wx.heap.size < (wx.alloc (.cells #[.slice A kz c, .slice B kw d] tz)).heap.size :=
  ⟨hb.alloc hb.size _, (ho.later ((Below.refl _ _).alloc (Nat.le_refl _) _)).mono hlo (by simp), Blk.new _ _ _, by simp⟩
/-- .. into a box that was made ahead of it. -/
theorem cutW_old {Q : Nat} {u v : Value} (hb : Below wj.heap.size wj wx) (ho : ObjW ts t w1.heap.size wx.heap.size wx A f B s) (hlo : wj.heap.size ≤ w1.heap.size) (hq : Blk wx Q tz [u, v]) (hl : wj.heap.size ≤ Q ∧ Q < w1.heap.size) :
    Below wj.heap.size wj ((wx.setCell ⟨Q, 0, none⟩ (.slice A kz c)).setCell ⟨Q, 1, none⟩ (.slice B kw d)) ∧ ObjW ts t wj.heap.size ((wx.setCell ⟨Q, 0, none⟩ (.slice A kz c)).setCell ⟨Q, 1, none⟩ (.slice B kw d)).heap.size ((wx.setCell ⟨Q, 0, none⟩ (.slice A kz c)).setCell ⟨Q, 1, none⟩ (.slice B kw d)) A f B s ∧ Blk ((wx.setCell ⟨Q, 0, none⟩ (.slice A kz c)).setCell ⟨Q, 1, none⟩ (.slice B kw d)) Q tz [.slice A kz c, .slice B kw d] ∧ Q < ((wx.setCell ⟨Q, 0, none⟩ (.slice A kz c)).setCell ⟨Q, 1, none⟩ (.slice B kw d)).heap.size :=
  have hk := (hq.set 0 (.slice A kz c)).set 1 (.slice B kw d)
  ⟨(hb.setCell (p := ⟨Q, 0, none⟩) hl.1 _).setCell (p := ⟨Q, 1, none⟩) hl.1 _, ((ho.set (p := ⟨Q, 0, none⟩) (.inl hl.2) _).set (p := ⟨Q, 1, none⟩) (.inl hl.2) _).mono hlo (by simp [World.setCell]), hk, hk.lt⟩
theorem cutZ_old {Q : Nat} {u v : Value} (hb : Below wj.heap.size wj wx) (ho : ObjZ ts t w1.heap.size wx.heap.size wx A f B s) (hlo : wj.heap.size ≤ w1.heap.size) (hq : Blk wx Q tz [u, v]) (hl : wj.heap.size ≤ Q ∧ Q < w1.heap.size) :
    Below wj.heap.size wj ((wx.setCell ⟨Q, 0, none⟩ (.slice A kz c)).setCell ⟨Q, 1, none⟩ (.slice B kw d)) ∧ ObjZ ts t wj.heap.size ((wx.setCell ⟨Q, 0, none⟩ (.slice A kz c)).setCell ⟨Q, 1, none⟩ (.slice B kw d)).heap.size ((wx.setCell ⟨Q, 0, none⟩ (.slice A kz c)).setCell ⟨Q, 1, none⟩ (.slice B kw d)) A f B s ∧ Blk ((wx.setCell ⟨Q, 0, none⟩ (.slice A kz c)).setCell ⟨Q, 1, none⟩ (.slice B kw d)) Q tz [.slice A kz c, .slice B kw d] ∧ Q < ((wx.setCell ⟨Q, 0, none⟩ (.slice A kz c)).setCell ⟨Q, 1, none⟩ (.slice B kw d)).heap.size :=
  have hk := (hq.set 0 (.slice A kz c)).set 1 (.slice B kw d)
  ⟨(hb.setCell (p := ⟨Q, 0, none⟩) hl.1 _).setCell (p := ⟨Q, 1, none⟩) hl.1 _, ((ho.set (p := ⟨Q, 0, none⟩) (.inl hl.2) _).set (p := ⟨Q, 1, none⟩) (.inl hl.2) _).mono hlo (by simp [World.setCell]), hk, hk.lt⟩
end
end Go.Proofs.Ytcmoeapgpljeiaa
namespace Go.Proofs.Ytcmoeapgpljeiaa
open Go Go.RowKit
set_option maxHeartbeats 4000000

/-- What is there before the box of the least pair so far: the argument's box, the result's, the permutations. -/
structure L0K (ts t tz : TypeId) (w wr : World) (n : Nat) (A : Option Addr) (c : Nat) (B : Option Addr) (d : Nat) (A2 : Option Addr) (ps : List (List Int)) (lo2 hi2 : Nat) : Prop where
  below : Below w.heap.size w wr
  arg : Blk wr w.heap.size tz [.slice A n c, .slice B n d]
  res : Blk wr (w.heap.size + 1) tz [.slice none 0 0, .slice none 0 0]
  prm : Obj2 ts t lo2 hi2 wr A2 ps
  lo : w.heap.size + 2 ≤ lo2
  hi : hi2 ≤ wr.heap.size
/-- .. and with it; all of it lies below top. -/
structure LsK (ts t tz : TypeId) (w wr : World) (top L n : Nat) (A : Option Addr) (c : Nat) (B : Option Addr) (d : Nat) (A' : Option Addr) (c' : Nat) (B' : Option Addr) (d' : Nat) (f g : List (List Int)) (A2 : Option Addr) (ps : List (List Int)) : Prop where
  below : Below w.heap.size w wr
  arg : Blk wr w.heap.size tz [.slice A n c, .slice B n d]
  res : Blk wr (w.heap.size + 1) tz [.slice none 0 0, .slice none 0 0]
  box : Blk wr L tz [.slice A' n c', .slice B' n d']
  low : w.heap.size + 2 ≤ L
  lt : L < top
  tp : top ≤ wr.heap.size
  obj : ∃ lo hi, w.heap.size + 2 ≤ lo ∧ hi ≤ top ∧ (L < lo ∨ hi ≤ L) ∧ ObjW ts t lo hi wr A' f B' g
  prm : ∃ lo hi, w.heap.size + 2 ≤ lo ∧ hi ≤ top ∧ (L < lo ∨ hi ≤ L) ∧ Obj2 ts t lo hi wr A2 ps
section
variable {ts t tz : TypeId} {w wr w2 : World} {top L n : Nat} {A : Option Addr} {c : Nat} {B : Option Addr} {d : Nat} {A' : Option Addr} {c' : Nat} {B' : Option Addr} {d' : Nat} {f g : List (List Int)} {A2 : Option Addr} {ps : List (List Int)} {lo2 hi2 : Nat}
theorem cell_later {p : Addr} {v : Value} (hb : Below wr.heap.size wr w2) (hc : wr.cell? p = some v) : w2.cell? p = some v :=
  (hb.cell (World.block_lt_of_cell? wr p hc)).trans hc
theorem L0K.later (h : L0K ts t tz w wr n A c B d A2 ps lo2 hi2) (hb : Below wr.heap.size wr w2) : L0K ts t tz w w2 n A c B d A2 ps lo2 hi2 :=
  ⟨h.below.trans (hb.mono h.below.size), h.arg.later hb, h.res.later hb, h.prm.later hb, h.lo, Nat.le_trans h.hi hb.size⟩
theorem L0K.hq (h : L0K ts t tz w wr n A c B d A2 ps lo2 hi2) : wr.heap.size < lo2 ∨ hi2 ≤ wr.heap.size := .inr h.hi
theorem hq_l {Q hi : Nat} {cs : List Value} (h : Blk wr Q tz cs) : Q < wr.heap.size ∨ hi ≤ Q := .inl h.lt
theorem LsK.later (h : LsK ts t tz w wr top L n A c B d A' c' B' d' f g A2 ps) (hb : Below wr.heap.size wr w2) : LsK ts t tz w w2 top L n A c B d A' c' B' d' f g A2 ps := by
  obtain ⟨lo, hi, a1, a2, a3, a4⟩ := h.obj
  obtain ⟨lo', hi', b1, b2, b3, b4⟩ := h.prm
  exact ⟨h.below.trans (hb.mono h.below.size), h.arg.later hb, h.res.later hb, h.box.later hb, h.low, h.lt, Nat.le_trans h.tp hb.size, ⟨lo, hi, a1, a2, a3, a4.later hb⟩, ⟨lo', hi', b1, b2, b3, b4.later hb⟩⟩
theorem LsK.prd (h : LsK ts t tz w wr top L n A c B d A' c' B' d' f g A2 ps) : Rd2 wr A2 ps := by
  obtain ⟨_, _, _, _, _, o⟩ := h.prm
  exact o.rd
theorem LsK.ofs (h : LsK ts t tz w wr top L n A c B d A' c' B' d' f g A2 ps) : Rd2 wr A' f := by
  obtain ⟨_, _, _, _, _, o⟩ := h.obj
  exact o.fst
theorem LsK.osn (h : LsK ts t tz w wr top L n A c B d A' c' B' d' f g A2 ps) : Rd2 wr B' g := by
  obtain ⟨_, _, _, _, _, o⟩ := h.obj
  exact o.snd
theorem LsK.whole (h : LsK ts t tz w wr top L n A c B d A' c' B' d' f g A2 ps) : ObjW ts t (w.heap.size + 2) wr.heap.size wr A' f B' g := by
  obtain ⟨_, _, a, b, _, o⟩ := h.obj
  exact o.mono a (Nat.le_trans b h.tp)
theorem LsK.over {Q : Nat} (h : LsK ts t tz w wr top L n A c B d A' c' B' d' f g A2 ps) (hQ : top ≤ Q) (i : Nat) (v : Value) : LsK ts t tz w (wr.setCell ⟨Q, i, none⟩ v) top L n A c B d A' c' B' d' f g A2 ps := by
  obtain ⟨lo, hi, a1, a2, a3, a4⟩ := h.obj
  obtain ⟨lo', hi', b1, b2, b3, b4⟩ := h.prm
  have hl := h.low
  have h2 := h.lt
  exact ⟨h.below.setCell (p := ⟨Q, i, none⟩) (by show w.heap.size ≤ Q; omega) _, h.arg.far (p := ⟨Q, i, none⟩) (by show w.heap.size ≠ Q; omega) _, h.res.far (p := ⟨Q, i, none⟩) (by show w.heap.size + 1 ≠ Q; omega) _, h.box.far (p := ⟨Q, i, none⟩) (by show L ≠ Q; omega) _, hl, h2, by simpa [World.setCell] using h.tp, ⟨lo, hi, a1, a2, a3, a4.set (p := ⟨Q, i, none⟩) (.inr (by show hi ≤ Q; omega)) _⟩, ⟨lo', hi', b1, b2, b3, b4.set (p := ⟨Q, i, none⟩) (.inr (by show hi' ≤ Q; omega)) _⟩⟩
theorem LsK.put {A3 : Option Addr} {c3 : Nat} {B3 : Option Addr} {d3 : Nat} {f3 g3 : List (List Int)} {lo hi : Nat} (h : LsK ts t tz w wr top L n A c B d A' c' B' d' f g A2 ps) (hhi : hi ≤ wr.heap.size) (hL : L < lo) (ho : ObjW ts t lo hi wr A3 f3 B3 g3) :
    LsK ts t tz w ((wr.setCell ⟨L, 0, none⟩ (.slice A3 n c3)).setCell ⟨L, 1, none⟩ (.slice B3 n d3)) wr.heap.size L n A c B d A3 c3 B3 d3 f3 g3 A2 ps := by
  obtain ⟨lo', hi', b1, b2, b3, b4⟩ := h.prm
  have hl := h.low
  have ht := h.tp
  have hb := h.box.lt
  exact ⟨(h.below.setCell (p := ⟨L, 0, none⟩) (by show w.heap.size ≤ L; omega) _).setCell (p := ⟨L, 1, none⟩) (by show w.heap.size ≤ L; omega) _, (h.arg.far (p := ⟨L, 0, none⟩) (by show w.heap.size ≠ L; omega) _).far (p := ⟨L, 1, none⟩) (by show w.heap.size ≠ L; omega) _, (h.res.far (p := ⟨L, 0, none⟩) (by show w.heap.size + 1 ≠ L; omega) _).far (p := ⟨L, 1, none⟩) (by show w.heap.size + 1 ≠ L; omega) _, (h.box.set 0 _).set 1 _, hl, hb, by simp [World.setCell], ⟨lo, hi, by omega, hhi, .inl hL, (ho.set (p := ⟨L, 0, none⟩) (.inl hL) _).set (p := ⟨L, 1, none⟩) (.inl hL) _⟩, ⟨lo', hi', b1, by omega, b3, (b4.set (p := ⟨L, 0, none⟩) b3 _).set (p := ⟨L, 1, none⟩) b3 _⟩⟩
theorem L0K.new {lo hi : Nat} (h : L0K ts t tz w wr n A c B d A2 ps lo2 hi2) (ho : ObjW ts t lo hi wr A' f B' g) (hlo : w.heap.size + 2 ≤ lo) (hhi : hi ≤ wr.heap.size) :
    LsK ts t tz w (wr.alloc (.cells #[.slice A' n c', .slice B' n d'] tz)) (wr.heap.size + 1) wr.heap.size n A c B d A' c' B' d' f g A2 ps := by
  have hr := h.res.lt
  have hh := h.hi
  have hb : Below wr.heap.size wr (wr.alloc (.cells #[.slice A' n c', .slice B' n d'] tz)) := (Below.refl _ _).alloc (Nat.le_refl _) _
  exact ⟨h.below.trans (hb.mono h.below.size), h.arg.later hb, h.res.later hb, Blk.new _ _ _, by omega, by omega, by simp, ⟨lo, hi, hlo, by omega, .inr hhi, ho.later hb⟩, ⟨lo2, hi2, h.lo, by omega, .inr h.hi, h.prm.later hb⟩⟩
theorem L0K.old {lo hi Q : Nat} {u v : Value} (h : L0K ts t tz w wr n A c B d A2 ps lo2 hi2) (hq : Blk wr Q tz [u, v]) (hQ : w.heap.size + 2 ≤ Q) (hp : Q < lo2 ∨ hi2 ≤ Q) (ho : ObjW ts t lo hi wr A' f B' g) (hlo : w.heap.size + 2 ≤ lo) (hhi : hi ≤ wr.heap.size) (hl : Q < lo) :
    LsK ts t tz w ((wr.setCell ⟨Q, 0, none⟩ (.slice A' n c')).setCell ⟨Q, 1, none⟩ (.slice B' n d')) wr.heap.size Q n A c B d A' c' B' d' f g A2 ps :=
  ⟨(h.below.setCell (p := ⟨Q, 0, none⟩) (by show w.heap.size ≤ Q; omega) _).setCell (p := ⟨Q, 1, none⟩) (by show w.heap.size ≤ Q; omega) _, (h.arg.far (p := ⟨Q, 0, none⟩) (by show w.heap.size ≠ Q; omega) _).far (p := ⟨Q, 1, none⟩) (by show w.heap.size ≠ Q; omega) _, (h.res.far (p := ⟨Q, 0, none⟩) (by show w.heap.size + 1 ≠ Q; omega) _).far (p := ⟨Q, 1, none⟩) (by show w.heap.size + 1 ≠ Q; omega) _, (hq.set 0 _).set 1 _, hQ, hq.lt, by simp [World.setCell], ⟨lo, hi, hlo, hhi, .inl hl, (ho.set (p := ⟨Q, 0, none⟩) (.inl hl) _).set (p := ⟨Q, 1, none⟩) (.inl hl) _⟩, ⟨lo2, hi2, h.lo, h.hi, hp, (h.prm.set (p := ⟨Q, 0, none⟩) hp _).set (p := ⟨Q, 1, none⟩) hp _⟩⟩
/-- The next pair, in a box of its own. -/
theorem LsK.nextNew {A4 : Option Addr} {c4 : Nat} {B4 : Option Addr} {d4 : Nat} {f4 g4 : List (List Int)} {lo hi : Nat} (h : LsK ts t tz w wr top L n A c B d A' c' B' d' f g A2 ps) (ho : ObjW ts t lo hi wr A4 f4 B4 g4) (hL : L < lo) (hhi : hi ≤ wr.heap.size) :
    LsK ts t tz w (wr.alloc (.cells #[.slice A4 n c4, .slice B4 n d4] tz)) top L n A c B d A' c' B' d' f g A2 ps ∧ Blk (wr.alloc (.cells #[.slice A4 n c4, .slice B4 n d4] tz)) wr.heap.size tz [.slice A4 n c4, .slice B4 n d4] ∧ L < lo ∧ hi ≤ (wr.alloc (.cells #[.slice A4 n c4, .slice B4 n d4] tz)).heap.size ∧ ObjW ts t lo hi (wr.alloc (.cells #[.slice A4 n c4, .slice B4 n d4] tz)) A4 f4 B4 g4 :=
  have hb : Below wr.heap.size wr (wr.alloc (.cells #[.slice A4 n c4, .slice B4 n d4] tz)) := (Below.refl _ _).alloc (Nat.le_refl _) _
  ⟨h.later hb, Blk.new _ _ _, hL, Nat.le_trans hhi hb.size, ho.later hb⟩
theorem LsK.nextOld {Q : Nat} {u v : Value} {A4 : Option Addr} {c4 : Nat} {B4 : Option Addr} {d4 : Nat} {f4 g4 : List (List Int)} {lo hi : Nat} (h : LsK ts t tz w wr top L n A c B d A' c' B' d' f g A2 ps) (hq : Blk wr Q tz [u, v]) (hQ : top ≤ Q) (ho : ObjW ts t lo hi wr A4 f4 B4 g4) (hL : L < lo) (hhi : hi ≤ wr.heap.size) (hl : Q < lo) :
    LsK ts t tz w ((wr.setCell ⟨Q, 0, none⟩ (.slice A4 n c4)).setCell ⟨Q, 1, none⟩ (.slice B4 n d4)) top L n A c B d A' c' B' d' f g A2 ps ∧ Blk ((wr.setCell ⟨Q, 0, none⟩ (.slice A4 n c4)).setCell ⟨Q, 1, none⟩ (.slice B4 n d4)) Q tz [.slice A4 n c4, .slice B4 n d4] ∧ L < lo ∧ hi ≤ ((wr.setCell ⟨Q, 0, none⟩ (.slice A4 n c4)).setCell ⟨Q, 1, none⟩ (.slice B4 n d4)).heap.size ∧ ObjW ts t lo hi ((wr.setCell ⟨Q, 0, none⟩ (.slice A4 n c4)).setCell ⟨Q, 1, none⟩ (.slice B4 n d4)) A4 f4 B4 g4 :=
  ⟨(h.over hQ 0 _).over hQ 1 _, (hq.set 0 _).set 1 _, hL, by simpa [World.setCell] using hhi, (ho.set (p := ⟨Q, 0, none⟩) (.inl hl) _).set (p := ⟨Q, 1, none⟩) (.inl hl) _⟩
end

set_option maxRecDepth 100000 in
theorem lzL_any (A : Option Addr) (n c : Nat) (f : List (List Int)) (B : Option Addr) (d : Nat) (s : List (List Int)) (w : World) (hz : ZArg 1048576 w A n f B n s) (hp : PMap f s) (h7 : n ≤ 7) :
    Calls Try.prog 79 #[.agg #[.slice A n c, .slice B n d]] w fun e w' => ∃ A' c' B' d', e = .returned (.agg #[.slice A' n c', .slice B' n d']) ∧ Below w.heap.size w w' ∧ ObjW 25 2 w.heap.size w'.heap.size w' A' (bestZ f s n (permsS n).length).1 B' (bestZ f s n (permsS n).length).2 := by
  have HZ := hide hz
  have HP := hide hp
  have HSQ := hide (hp.sq hz.sz.fl)
  have h12 := hz.small hp
  have h1k := h12.1
  have HSH := hide (fun q => bestZ_shape q (hp.sq hz.sz.fl).1 (hp.sq hz.sz.fl).2)
  have HPA := hide (perms_all n h1k h7)
  have HPI := hide (perms_isP n h1k h7)
  obtain ⟨N, hN⟩ : ∃ N, (permsS n).length = N := ⟨_, rfl⟩
  have HNN := hide hN
  have hNb : N ≤ 5040 := by have := HPA.out.most; omega
  have hNp : 0 < N := by have := HPA.out.pos; omega
  rw [hN]
  clear hp hz hN
  go_enter Try.func79, Try.ntmps79
  go_wp2_with fail
  refine wp_gen fun w0 hw0 => ?_
  have hb0 : Below w.heap.size w w0 := by rw [hw0]; exact ((Below.refl _ _).alloc (Nat.le_refl _) _).alloc (by simp) _
  have hs0 : w0.heap.size = w.heap.size + 2 := by rw [hw0]; simp
  have HBc := hide hb0
  have HK : Hid (Blk w0 w.heap.size 29 [.slice A n c, .slice B n d]) := hide (by rw [hw0]; exact (Blk.new _ _ _).alloc _)
  have HR : Hid (Blk w0 (w.heap.size + 1) 29 [.slice none 0 0, .slice none 0 0]) := hide (by rw [hw0]; have h := Blk.new (w.alloc (Obj.cells #[Value.slice A n c, Value.slice B n d] 29)) 29 [.slice none 0 0, .slice none 0 0]; simpa using h)
  have HS0 := hide hs0
  clear hw0 hb0 hs0
  go_cut [3, 4] (fun v1 v2 wx => ∃ A2 c2 top L A' c' B' d', v1 = .slice A2 N c2 ∧ v2 = .pointer (some ⟨L, 0, none⟩) ∧ LsK 25 2 29 w wx top L n A c B d A' c' B' d' f s A2 (permsS n))
  case first =>
    have HPB : Hid True := hide trivial
    have k0 := HK.out.cell 0 _ rfl
    have k1 := HK.out.cell 1 _ rfl
    have gn0 : w0.heap.size ≠ w.heap.size := (by have h1 := HS0.out; omega)
    have gm0 := gn0.symm
    go_region_held3 (fun w' => w'.cell? ⟨w.heap.size, 0, none⟩ = some (.slice A n c) ∧ w'.cell? ⟨w.heap.size, 1, none⟩ = some (.slice B n d)) (first | exact ⟨k0, k1⟩ | go_keep) (first | (go_at_call 109; go_must (refine calls_gen fun wc hwc => ?_; (first | (have hbx := al_drew_below hwc; have HPB := hide (And.intro (blk_al_drew hwc) (by have h1 := HBc.out.size; have h2 := HR.out.lt; omega)); skip) | (have hbx := al_below hwc; have HPB := hide (And.intro (blk_al hwc) (by have h1 := HBc.out.size; have h2 := HR.out.lt; omega)); skip) | (have hbx := drew_below hwc; (first | replace HPB := hide (And.intro (HPB.out.1.later hbx) HPB.out.2) | skip)) | (have hbx := eq_below hwc; (first | replace HPB := hide (And.intro (HPB.out.1.later hbx) HPB.out.2) | skip))); replace HBc := hide (HBc.out.trans (hbx.mono HBc.out.size)); replace HK := hide (HK.out.later hbx); replace HR := hide (HR.out.later hbx); clear hwc hbx; refine (l01Perms_any n _ h1k h7).mono ?_; rw [HNN.out]; rintro e wd ⟨A2, c2, rfl, hbd, hob2⟩; (first | (have HQP := hide (hq_l (hi := wd.heap.size) HPB.out.1); replace HPB := hide (And.intro (HPB.out.1.later hbd) HPB.out.2)) | skip); have HL0 := hide (L0K.mk (HBc.out.trans (hbd.mono HBc.out.size)) (HK.out.later hbd) (HR.out.later hbd) hob2 (by have h2 := HR.out.lt; omega) (Nat.le_refl _)); have k0 := HL0.out.arg.cell 0 _ rfl; have k1 := HL0.out.arg.cell 1 _ rfl; have gn0 : wd.heap.size ≠ w.heap.size := (by have h1 := HL0.out.arg.lt; omega); have gm0 := gn0.symm; clear hbd hob2; (first | (have bb0 := HPB.out.1.cell 0 _ rfl; have bb1 := HPB.out.1.cell 1 _ rfl; have bf0 := HPB.out.1.frozen 0; have bf1 := HPB.out.1.frozen 1) | skip))) | (go_at_call 110; go_must (refine calls_gen fun wc hwc => ?_; (first | (have hbx := al_drew_below hwc; have HPB := hide (And.intro (blk_al_drew hwc) (by have h2 := HL0.out.res.lt; omega)); have HQP := hide HL0.out.hq) | (have hbx := al_below hwc; have HPB := hide (And.intro (blk_al hwc) (by have h2 := HL0.out.res.lt; omega)); have HQP := hide HL0.out.hq) | (have hbx := drew_below hwc; (first | replace HPB := hide (And.intro (HPB.out.1.later hbx) HPB.out.2) | skip)) | (have hbx := eq_below hwc; (first | replace HPB := hide (And.intro (HPB.out.1.later hbx) HPB.out.2) | skip))); replace HL0 := hide (HL0.out.later hbx); clear hwc hbx; refine (lownS_any _ n _ f _ _ s _ (HZ.out.later HL0.out.below) HP.out).mono ?_; rintro e wd ⟨A3, c3, B3, d3, rfl, hbd, hob3⟩; have HO := hide (And.intro hob3 (And.intro (show w.heap.size + 2 ≤ wc.heap.size by have h2 := HL0.out.res.lt; omega) trivial)); (first | (replace HO := hide (And.intro hob3 (And.intro HO.out.2.1 HPB.out.1.lt)); replace HPB := hide (And.intro (HPB.out.1.later hbd) HPB.out.2)) | skip); replace HL0 := hide (HL0.out.later hbd); have k0 := HL0.out.arg.cell 0 _ rfl; have k1 := HL0.out.arg.cell 1 _ rfl; have gn0 : wd.heap.size ≠ w.heap.size := (by have h1 := HL0.out.arg.lt; omega); have gm0 := gn0.symm; clear hbd hob3; (first | (have bb0 := HPB.out.1.cell 0 _ rfl; have bb1 := HPB.out.1.cell 1 _ rfl; have bf0 := HPB.out.1.frozen 0; have bf1 := HPB.out.1.frozen 1) | skip))))
    all_goals go_wp2_with fail
    all_goals go_meet
    all_goals first | exact ⟨_, _, _, _, A3, c3, B3, d3, rfl, rfl, HL0.out.new HO.out.1 HO.out.2.1 (Nat.le_refl _)⟩ | exact ⟨_, _, _, _, A3, c3, B3, d3, rfl, rfl, HL0.out.old HPB.out.1 HPB.out.2 HQP.out HO.out.1 HO.out.2.1 (Nat.le_refl _) HO.out.2.2⟩
  case rest =>
    obtain ⟨A2, c2, top, L, A1, c1, B1, d1, rfl, rfl, hls⟩ := hcut
    have HL := hide hls
    clear hls HBc HK HR
    go_wp2_with fail
    go_loopw [5] (fun i wr => ∃ (q top : Nat) (A' : Option Addr) (c' : Nat) (B' : Option Addr) (d' : Nat), q ≤ N ∧ i = .int .i64 q ∧ LsK 25 2 29 w wr top L n A c B d A' c' B' d' (bestZ f s n q).1 (bestZ f s n q).2 A2 (permsS n)) (fun i _ => N - (intOf i).toNat)
    case atStart => exact ⟨0, _, _, _, _, _, Nat.zero_le _, rfl, HL.out⟩
    case round =>
      obtain ⟨q, top2, A', c', B', d', hq, rfl, hls⟩ := hrel
      have HL1 := hide hls
      clear hls HL
      by_cases hlt : q < N
      · have hltz : (q : Int) < N := by omega
        obtain ⟨b, o, rfl, hbw, hc⟩ := HL1.out.prd (by have := HNN.out; omega)
        obtain ⟨Ap, cp, hcell, hr1⟩ := hc q (by have := HNN.out; omega)
        have hl := HPA.out.len q (by have := HNN.out; omega)
        have hpi := HPI.out q (by have := HNN.out; omega)
        have hbst : bestZ f s n (q + 1) = if lessZ (renL f ((permsS n).getD q [])) (renL s ((permsS n).getD q [])) (bestZ f s n q).1 (bestZ f s n q).2 then (renL f ((permsS n).getD q []), renL s ((permsS n).getD q [])) else bestZ f s n q := rfl
        obtain ⟨p, hpe⟩ : ∃ p, (permsS n).getD q [] = p := ⟨_, rfl⟩
        rw [hpe] at hcell hr1 hl hpi hbst
        rw [hl] at hcell
        have HLP := hide hl
        have HR1 := hide hr1
        have HPI2 := hide hpi.1
        have HBS := hide hbst
        clear hpe hc hr1 hl hpi hbst
        go_wp2_with fail
        go_cut [6] (fun v1 wx => ∃ L2 A4 c4 B4 d4 lo hi, v1 = .pointer (some ⟨L2, 0, none⟩) ∧ LsK 25 2 29 w wx top2 L n A c B d A' c' B' d' (bestZ f s n q).1 (bestZ f s n q).2 (some ⟨b, o, none⟩) (permsS n) ∧ Blk wx L2 29 [.slice A4 n c4, .slice B4 n d4] ∧ L < lo ∧ hi ≤ wx.heap.size ∧ ObjW 25 2 lo hi wx A4 (renL f p) B4 (renL s p))
        case first =>
          have HPB : Hid True := hide trivial
          have HC := hide hcell
          have k0 := HL1.out.arg.cell 0 _ rfl
          have k1 := HL1.out.arg.cell 1 _ rfl
          have gn0 := Nat.ne_of_gt HL1.out.arg.lt
          have gm0 := gn0.symm
          have gn1 := Nat.ne_of_gt hbw
          have gm1 := gn1.symm
          go_region_held3 (fun w' => w'.cell? ⟨w.heap.size, 0, none⟩ = some (.slice A n c) ∧ w'.cell? ⟨w.heap.size, 1, none⟩ = some (.slice B n d) ∧ w'.cell? ⟨b, o + q, none⟩ = some (.slice Ap n cp)) (first | exact ⟨k0, k1, hcell⟩ | go_keep) (first | (go_at_call 58; go_must (refine calls_gen fun wc hwc => ?_; (first | (have hbx := al_drew_below hwc; have HPB := hide (And.intro (blk_al_drew hwc) (HL1.out.tp)); skip) | (have hbx := al_below hwc; have HPB := hide (And.intro (blk_al hwc) (HL1.out.tp)); skip) | (have hbx := drew_below hwc; (first | replace HPB := hide (And.intro (HPB.out.1.later hbx) HPB.out.2) | skip)) | (have hbx := eq_below hwc; (first | replace HPB := hide (And.intro (HPB.out.1.later hbx) HPB.out.2) | skip))); replace HL1 := hide (HL1.out.later hbx); replace HC := hide (cell_later hbx HC.out); replace HR1 := hide (HR1.out.later hbx); clear hwc hbx; refine (lrenS_any _ n _ f _ _ s _ _ p _ (HZ.out.later HL1.out.below) HP.out HLP.out HPI2.out HR1.out).mono ?_; rintro e wd ⟨A4, c4, B4, d4, rfl, hbd, hob4⟩; have HO := hide (And.intro hob4 HL1.out.box.lt); (first | have HQL := hide HPB.out.1.lt | skip); (first | replace HPB := hide (And.intro (HPB.out.1.later hbd) HPB.out.2) | skip); replace HL1 := hide (HL1.out.later hbd); have k2 := cell_later hbd HC.out; have k0 := HL1.out.arg.cell 0 _ rfl; have k1 := HL1.out.arg.cell 1 _ rfl; have gn0 := Nat.ne_of_gt HL1.out.arg.lt; have gm0 := gn0.symm; clear hbd hob4; (first | (have bb0 := HPB.out.1.cell 0 _ rfl; have bb1 := HPB.out.1.cell 1 _ rfl; have bf0 := HPB.out.1.frozen 0; have bf1 := HPB.out.1.frozen 1) | skip))))
          all_goals go_wp2_with fail
          all_goals go_meet
          all_goals first | exact ⟨_, A4, c4, B4, d4, _, _, rfl, HL1.out.nextNew HO.out.1 HO.out.2 (Nat.le_refl _)⟩ | exact ⟨_, A4, c4, B4, d4, _, _, rfl, HL1.out.nextOld HPB.out.1 HPB.out.2 HO.out.1 HO.out.2 (Nat.le_refl _) HQL.out⟩
        case rest =>
          obtain ⟨L2, A4, c4, B4, d4, lo, hi, rfl, hls, hbk, hlo, hhi, hob⟩ := hcut
          have HL2 := hide hls
          have HBK := hide hbk
          have HO2 := hide hob
          clear hls hbk hob hcell hbw HL1 HR1
          have k0 := HBK.out.cell 0 _ rfl
          have k1 := HBK.out.cell 1 _ rfl
          have k2 := HL2.out.box.cell 0 _ rfl
          have k3 := HL2.out.box.cell 1 _ rfl
          obtain ⟨bv, hbv⟩ : ∃ bv, lessZ (renL f p) (renL s p) (bestZ f s n q).1 (bestZ f s n q).2 = bv := ⟨_, rfl⟩
          have HBV := hide hbv
          clear hbv
          go_wp2_with fail
          refine (beforeS_any A4 B4 A' B' n c4 d4 c' d' (renL f p) (renL s p) (bestZ f s n q).1 (bestZ f s n q).2 bv _ (by omega) (ren_sq HZ.out.sz.fl p) (ren_sq HZ.out.sz.sl p) (HSH.out q).1 (HSH.out q).2 HO2.out.fst HO2.out.snd HL2.out.ofs HL2.out.osn HBV.out).mono ?_
          rintro e w5 ⟨rfl, hb5⟩
          have HL5 := hide (HL2.out.later hb5)
          have HBK5 := hide (HBK.out.later hb5)
          have HO5 := hide (And.intro (HO2.out.later hb5) (Nat.le_trans hhi hb5.size))
          clear hb5 k0 k1 k2 k3 hhi HL2 HBK HO2
          cases bv
          · go_wp2_with fail
            go_roundw
            case rel =>
              refine ⟨q + 1, top2, A', c', B', d', by omega, by go_num, ?_⟩
              rw [HBS.out, HBV.out]
              exact HL5.out
            case measure => simp [intOf]; omega
          · have k0 := HBK5.out.cell 0 _ rfl
            have k1 := HBK5.out.cell 1 _ rfl
            have k2 := HL5.out.box.cell 0 _ rfl
            have k3 := HL5.out.box.cell 1 _ rfl
            have k4 := HL5.out.box.frozen 0
            have k5 := HL5.out.box.frozen 1
            go_wp2_with fail
            go_roundw
            case rel =>
              refine ⟨q + 1, w5.heap.size, A4, c4, B4, d4, by omega, by go_num, ?_⟩
              rw [HBS.out, HBV.out]
              exact HL5.out.put HO5.out.2 hlo HO5.out.1
            case measure => simp [intOf]; omega
      · have hqN : q = N := by omega
        subst hqN
        have k0 := HL1.out.box.cell 0 _ rfl
        have k1 := HL1.out.box.cell 1 _ rfl
        have k2 := HL1.out.res.cell 0 _ rfl
        have k3 := HL1.out.res.cell 1 _ rfl
        have k4 := HL1.out.res.frozen 0
        have k5 := HL1.out.res.frozen 1
        go_wp2_with fail
        refine bp_gen fun wf hwf => ?_
        have hs0 := HS0.out
        have hob := HL1.out.whole
        rw [← hs0] at hob
        obtain ⟨q0, q1, hbf, hof⟩ := wend (w2 := w0) hwf HL1.out.res (by omega) (by omega) HL1.out.below (by omega) hob
        clear hwf k0 k1 k2 k3 k4 k5
        exact bodyPost_ret (v := .agg #[.slice A' n c', .slice B' n d']) (by simp [results, Try.results79, go_sem, q0, q1]) rfl ⟨_, _, _, _, rfl, hbf, hof⟩
end Go.Proofs.Ytcmoeapgpljeiaa
namespace Go.Proofs.Ytcmoeapgpljeiaa
open Go Go.RowKit
set_option maxHeartbeats 4000000

theorem lzS_any (A : Option Addr) (n c : Nat) (f : List (List Int)) (B : Option Addr) (m d : Nat) (s : List (List Int)) (zf zg : List (List Int)) (code : Int) (kz kw : Nat) (w : World) (hz : ZArg 1048576 w A n f B m s) (hr : LzRes f s zf zg code) (hk : ZSz 1048576 zf kz zg kw) :
    Calls Try.prog 38 #[.agg #[.slice A n c, .slice B m d]] w (WPost 25 2 kz kw zf zg code w) := by
  have hnb := hz.sz.nb
  have HZ := hide hz
  have HFL := hide hz.sz.fl
  rcases hr with ⟨hp, h7, rfl, rfl, rfl⟩ | ⟨hp, h7, rfl, rfl, rfl⟩ | ⟨hp, rfl, rfl, rfl⟩
  · have hsame := (hz.same hp).symm
    subst hsame
    rw [hz.sz.fl] at h7 hk ⊢
    have HSH := hide (fun q => bestZ_shape q (hp.sq hz.sz.fl).1 (hp.sq hz.sz.fl).2)
    obtain rfl : n = kz := by rw [← hk.fl]; exact (HSH.out _).1.1.symm
    obtain rfl : n = kw := by rw [← hk.sl]; exact (HSH.out _).2.1.symm
    have h7z : ¬ (7 : Int) < (n : Int) := by omega
    clear hk
    have HP := hide hp
    clear hp hz
    go_enter Try.func38, Try.ntmps38
    go_wp2_with fail
    refine calls_gen fun w0 hw0 => ?_
    have hb0 : Below w.heap.size w w0 := by rw [hw0]; exact ((Below.refl _ _).alloc (Nat.le_refl _) _).alloc (by simp) _
    have HB := hide hb0
    have HK : Hid (Blk w0 w.heap.size 29 [.slice A n c, .slice B n d]) := hide (by rw [hw0]; exact (Blk.new _ _ _).alloc _)
    have HR : Hid (Blk w0 (w.heap.size + 1) 29 [.slice none 0 0, .slice none 0 0]) := hide (by rw [hw0]; have h := Blk.new (w.alloc (Obj.cells #[Value.slice A n c, Value.slice B n d] 29)) 29 [.slice none 0 0, .slice none 0 0]; simpa using h)
    clear hw0 hb0
    refine (mapS_any _ _ _ f _ _ _ s true _ (HZ.out.later HB.out) (by simp [HP.out])).mono ?_
    rintro _ wd ⟨rfl, hbd⟩
    replace HK := hide (HK.out.later hbd)
    replace HR := hide (HR.out.later hbd)
    have HB' := hide (HB.out.trans (hbd.mono HB.out.size))
    replace HB := HB'
    clear HB' hbd
    have k0 := HK.out.cell 0 _ rfl
    have k1 := HK.out.cell 1 _ rfl
    have k2 := HR.out.cell 0 _ rfl
    have k3 := HR.out.cell 1 _ rfl
    have k4 := HR.out.frozen 0
    have k5 := HR.out.frozen 1
    go_wp2_with fail
    clear k2 k3 k4 k5 k0 k1
    refine (lzL_any _ n _ f _ _ s _ (HZ.out.later HB.out) HP.out h7).mono ?_
    rintro e w3 ⟨A3, c3, B3, d3, rfl, hb3, ho3⟩
    have HB3 := hide (HB.out.trans (hb3.mono HB.out.size))
    have HR3 := hide (HR.out.later hb3)
    have HO3 := hide ho3
    have k2 := HR3.out.cell 0 _ rfl
    have k3 := HR3.out.cell 1 _ rfl
    have k4 := HR3.out.frozen 0
    have k5 := HR3.out.frozen 1
    clear hb3 ho3
    go_wp2_with fail
    refine bp_gen fun wf hwf => ?_
    obtain ⟨q0, q1, hbf, hof⟩ := wend hwf HR3.out (by omega) HR.out.lt HB3.out HB.out.size HO3.out
    clear hwf k2 k3 k4 k5
    exact bodyPost_ret (v := .tuple #[.agg #[.slice A3 n c3, .slice B3 n d3], .int .i64 0]) (by simp [results, Try.results38, go_sem, q0, q1]) rfl ⟨_, _, _, _, rfl, hbf, hof⟩
  · rw [hz.sz.fl] at h7
    have h7z : (7 : Int) < (n : Int) := by omega
    obtain rfl : kz = 0 := by simpa using hk.fl.symm
    obtain rfl : kw = 0 := by simpa using hk.sl.symm
    clear hk
    have HP := hide hp
    clear hp hz
    go_enter Try.func38, Try.ntmps38
    go_wp2_with fail
    refine calls_gen fun w0 hw0 => ?_
    have hb0 : Below w.heap.size w w0 := by rw [hw0]; exact ((Below.refl _ _).alloc (Nat.le_refl _) _).alloc (by simp) _
    have HB := hide hb0
    have HK : Hid (Blk w0 w.heap.size 29 [.slice A n c, .slice B m d]) := hide (by rw [hw0]; exact (Blk.new _ _ _).alloc _)
    have HR : Hid (Blk w0 (w.heap.size + 1) 29 [.slice none 0 0, .slice none 0 0]) := hide (by rw [hw0]; have h := Blk.new (w.alloc (Obj.cells #[Value.slice A n c, Value.slice B m d] 29)) 29 [.slice none 0 0, .slice none 0 0]; simpa using h)
    clear hw0 hb0
    refine (mapS_any _ _ _ f _ _ _ s true _ (HZ.out.later HB.out) (by simp [HP.out])).mono ?_
    rintro _ wd ⟨rfl, hbd⟩
    replace HK := hide (HK.out.later hbd)
    replace HR := hide (HR.out.later hbd)
    have HB' := hide (HB.out.trans (hbd.mono HB.out.size))
    replace HB := HB'
    clear HB' hbd
    have k0 := HK.out.cell 0 _ rfl
    have k1 := HK.out.cell 1 _ rfl
    have k2 := HR.out.cell 0 _ rfl
    have k3 := HR.out.cell 1 _ rfl
    have k4 := HR.out.frozen 0
    have k5 := HR.out.frozen 1
    go_wp2_with fail
    refine bp_gen fun wf hwf => ?_
    obtain ⟨q0, q1, hbf, hof⟩ := wend (ts := 25) (t := 2) (w2 := wd) hwf HR.out (by omega) HR.out.lt HB.out HB.out.size ObjW.empty
    clear hwf k0 k1 k2 k3 k4 k5
    exact bodyPost_ret (v := .tuple #[.agg #[.slice none 0 0, .slice none 0 0], .int .i64 3]) (by simp [results, Try.results38, go_sem, q0, q1]) rfl ⟨_, _, _, _, rfl, hbf, hof⟩
  · obtain rfl : kz = 0 := by simpa using hk.fl.symm
    obtain rfl : kw = 0 := by simpa using hk.sl.symm
    clear hk
    have HP := hide hp
    clear hp hz
    go_enter Try.func38, Try.ntmps38
    go_wp2_with fail
    refine calls_gen fun w0 hw0 => ?_
    have hb0 : Below w.heap.size w w0 := by rw [hw0]; exact ((Below.refl _ _).alloc (Nat.le_refl _) _).alloc (by simp) _
    have HB := hide hb0
    have HK : Hid (Blk w0 w.heap.size 29 [.slice A n c, .slice B m d]) := hide (by rw [hw0]; exact (Blk.new _ _ _).alloc _)
    have HR : Hid (Blk w0 (w.heap.size + 1) 29 [.slice none 0 0, .slice none 0 0]) := hide (by rw [hw0]; have h := Blk.new (w.alloc (Obj.cells #[Value.slice A n c, Value.slice B m d] 29)) 29 [.slice none 0 0, .slice none 0 0]; simpa using h)
    clear hw0 hb0
    refine (mapS_any _ _ _ f _ _ _ s false _ (HZ.out.later HB.out) (by simp [HP.out])).mono ?_
    rintro _ wd ⟨rfl, hbd⟩
    replace HK := hide (HK.out.later hbd)
    replace HR := hide (HR.out.later hbd)
    have HB' := hide (HB.out.trans (hbd.mono HB.out.size))
    replace HB := HB'
    clear HB' hbd
    have k0 := HK.out.cell 0 _ rfl
    have k1 := HK.out.cell 1 _ rfl
    have k2 := HR.out.cell 0 _ rfl
    have k3 := HR.out.cell 1 _ rfl
    have k4 := HR.out.frozen 0
    have k5 := HR.out.frozen 1
    go_wp2_with fail
    refine bp_gen fun wf hwf => ?_
    obtain ⟨q0, q1, hbf, hof⟩ := wend (ts := 25) (t := 2) (w2 := wd) hwf HR.out (by omega) HR.out.lt HB.out HB.out.size ObjW.empty
    clear hwf k0 k1 k2 k3 k4 k5
    exact bodyPost_ret (v := .tuple #[.agg #[.slice none 0 0, .slice none 0 0], .int .i64 1]) (by simp [results, Try.results38, go_sem, q0, q1]) rfl ⟨_, _, _, _, rfl, hbf, hof⟩
end Go.Proofs.Ytcmoeapgpljeiaa
