import Derived.Test.YtljdfanebjhhmaaZj
import Derived.Test.YtljdfanebjhhmaaZg
import Derived.Test.YtljdfanebjhhmaaZc
import Derived.Test.YtljdfanebjhhmaaProg
namespace Go.Proofs.Ytljdfanebjhhmaa
open Go Go.RowKit
set_option maxHeartbeats 1000000

theorem copyZ (A : Option Addr) (n c : Nat) (f : List (List Int)) (B : Option Addr) (m d : Nat) (s : List (List Int)) (w : World) (hz : ZArg 1048576 w A n f B m s) :
    Calls Try.prog 30 #[.agg #[.slice A n c, .slice B m d]] w fun e w' => ∃ A' c' B' d', e = .returned (.agg #[.slice A' n c', .slice B' m d']) ∧ Below w.heap.size w w' ∧ ObjZ 33 2 w.heap.size w'.heap.size w' A' f B' s := by
  have HZ := hide hz
  clear hz
  go_enter Try.func30, Try.ntmps30
  go_wp2_with fail
  have HB0 := hide (((((Below.refl _ w).alloc (Nat.le_refl _) (Obj.cells #[Value.slice A n c, Value.slice B m d] 44)).alloc (by simp) (Obj.cells #[Value.slice none 0 0, Value.slice none 0 0] 46)).alloc (by simp; omega) (Obj.cells #[Value.slice none 0 0, Value.slice none 0 0] 46)))
  have HK0 := hide (Blk.new ((w.alloc (Obj.cells #[Value.slice A n c, Value.slice B m d] 44)).alloc (Obj.cells #[Value.slice none 0 0, Value.slice none 0 0] 46)) 46 [.slice none 0 0, .slice none 0 0])
  have HL0 := hide (((Blk.new w 44 [.slice A n c, .slice B m d]).alloc (Obj.cells #[Value.slice none 0 0, Value.slice none 0 0] 46)).alloc (Obj.cells #[Value.slice none 0 0, Value.slice none 0 0] 46))
  have HR0 := hide ((Blk.new (w.alloc (Obj.cells #[Value.slice A n c, Value.slice B m d] 44)) 46 [.slice none 0 0, .slice none 0 0]).alloc (Obj.cells #[Value.slice none 0 0, Value.slice none 0 0] 46))
  refine (copyT _ _ _ f _ HZ.out.sz.fl HZ.out.sz.nb HZ.out.sz.nr (HZ.out.fst.later HB0.out)).mono ?_
  rintro e w1 ⟨A1, rfl, hb1, ho1⟩
  have hs1 := hb1.size
  simp at hs1
  have HB1 := hide (HB0.out.trans (hb1.mono (by simp; omega)))
  have HO1 := hide ho1
  have HK1 := hide (HK0.out.later hb1)
  have HL1 := hide (HL0.out.later hb1)
  have HR1 := hide (HR0.out.later hb1)
  clear hb1 ho1 HK0 HL0 HR0
  simp at HK1 HR1
  have k0 := HK1.out.cell 0 _ rfl
  have k1 := HK1.out.frozen 0
  have k2 := HL1.out.cell 1 _ rfl
  go_wp2_with fail
  clear k0 k1 k2
  have HK2 := hide (HK1.out.set 0 (.slice A1 n n))
  have HB2 := hide (HB1.out.setCell (p := ⟨w.heap.size + 1 + 1, 0, none⟩) (by simp; omega) (Value.slice A1 n n))
  refine (copyT _ _ _ s _ HZ.out.sz.sl HZ.out.sz.mb HZ.out.sz.mr (HZ.out.snd.later HB2.out)).mono ?_
  rintro e w2 ⟨A2, rfl, hb2, ho2⟩
  have hs2 := hb2.size
  simp [World.setCell] at hs2
  have HB3 := hide (HB2.out.trans (hb2.mono HB2.out.size))
  have HO3 := hide (((HO1.out.set (p := ⟨w.heap.size + 1 + 1, 0, none⟩) (by simp) (Value.slice A1 n n)).later hb2))
  have HO2 := hide ho2
  have HK3 := hide (HK2.out.later hb2)
  have HR3 := hide ((HR1.out.far (p := ⟨w.heap.size + 1 + 1, 0, none⟩) (by simp) (Value.slice A1 n n)).later hb2)
  clear hb2 ho2 HK1 HK2
  have k0 := HK3.out.cell 0 _ rfl
  have k1 := HK3.out.cell 1 _ rfl
  have k2 := HK3.out.frozen 1
  have k3 := HR3.out.cell 0 _ rfl
  have k4 := HR3.out.cell 1 _ rfl
  have k5 := HR3.out.frozen 0
  have k6 := HR3.out.frozen 1
  go_wp2_with fail
  refine bp_gen fun wf hwf => ?_
  have HRF : Hid (Blk wf (w.heap.size + 1) 46 [.slice A1 n n, .slice A2 m m]) := hide (by rw [hwf]; exact ((HR3.out.far (by simp) _).set 0 _).set 1 _)
  have HBF : Hid (Below w.heap.size w wf) := hide (by rw [hwf]; exact ((HB3.out.setCell (by simp; omega) _).setCell (by simp) _).setCell (by simp) _)
  have HOF : Hid (Obj2 33 2 w.heap.size w1.heap.size wf A1 f) := hide (by rw [hwf]; exact ((((HO3.out.set (by simp) _).set (by simp) _).set (by simp) _).mono (by simp; omega) (Nat.le_refl _)))
  have HPF : Hid (Obj2 33 2 w1.heap.size wf.heap.size wf A2 s) := hide (by rw [hwf]; exact ((((HO2.out.set (by simp [World.setCell]; omega) _).set (by simp [World.setCell]; omega) _).set (by simp [World.setCell]; omega) _).mono (by simp [World.setCell]) (by simp [World.setCell])))
  have q0 := HRF.out.cell 0 _ rfl
  have q1 := HRF.out.cell 1 _ rfl
  have hsf : w1.heap.size ≤ wf.heap.size := by rw [hwf]; simp [World.setCell]; omega
  clear hwf k0 k1 k2 k3 k4 k5 k6
  exact bodyPost_ret (v := .agg #[.slice A1 n n, .slice A2 m m]) (by simp [results, Try.results30, go_sem, q0, q1]) rfl ⟨_, _, _, _, rfl, HBF.out, w1.heap.size, by omega, hsf, HOF.out, HPF.out⟩
end Go.Proofs.Ytljdfanebjhhmaa
namespace Go.Proofs.Ytljdfanebjhhmaa
open Go Go.RowKit
set_option maxHeartbeats 1000000

def SzZ (L : Int) (f : List (List Int)) (n : Nat) (s : List (List Int)) (m : Nat) (r : Int) : Prop := r = -1 ∨ (0 ≤ r ∧ r ≤ L ∧ ZSz 1048576 f n s m)
def SzZPost (L : Int) (f : List (List Int)) (n : Nat) (s : List (List Int)) (m : Nat) (w : World) (e : Ending) (w' : World) : Prop := ∃ r, SzZ L f n s m r ∧ e = .returned (.int .i64 r) ∧ Below w.heap.size w w'

theorem szZ_any (A : Option Addr) (n c : Nat) (f : List (List Int)) (B : Option Addr) (m d : Nat) (s : List (List Int)) (L : Int) (w : World) (hz : ZArg 9223372036854775807 w A n f B m s) (h0 : 0 ≤ L) (h1 : L ≤ 1048576) :
    Calls Try.prog 28 #[.agg #[.slice A n c, .slice B m d], .int .i64 L] w (SzZPost L f n s m w) := by
  have HZ := hide hz
  clear hz
  go_enter Try.func28, Try.ntmps28
  go_wp2_with fail
  have HB0 := hide ((Below.refl _ w).alloc (Nat.le_refl _) (Obj.cells #[Value.slice A n c, Value.slice B m d] 44))
  have HK0 := hide (Blk.new w 44 [.slice A n c, .slice B m d])
  refine (szz_any _ _ _ f L _ HZ.out.sz.fl HZ.out.sz.nb HZ.out.sz.nr h0 h1 (HZ.out.fst.later HB0.out)).mono ?_
  rintro e w1 ⟨l, hsz, rfl, rfl⟩
  have k1 := HK0.out.cell 1 _ rfl
  rcases hsz with rfl | ⟨p, q, u, y⟩
  · go_wp2_with fail
    go_ret
    exact ⟨-1, .inl rfl, rfl, HB0.out⟩
  · have U := hide u
    have Y := hide y
    clear u y
    go_wp2_with fail
    refine (szz_any _ _ _ s l _ HZ.out.sz.sl HZ.out.sz.mb HZ.out.sz.mr p (by omega) (HZ.out.snd.later HB0.out)).mono ?_
    rintro e w1 ⟨l2, hsz, rfl, rfl⟩
    rcases hsz with rfl | ⟨p2, q2, u2, y2⟩
    · go_wp2_with fail
      go_ret
      exact ⟨-1, .inl rfl, rfl, HB0.out⟩
    · have U2 := hide u2
      have Y2 := hide y2
      clear u2 y2
      go_wp2_with fail
      go_ret
      refine ⟨l2, .inr ⟨p2, by omega, ⟨HZ.out.sz.fl, ?_, fun i hi => ?_, HZ.out.sz.sl, ?_, fun i hi => ?_⟩⟩, rfl, HB0.out⟩
      · have := U.out; have := HZ.out.sz.fl; omega
      · have := Y.out i hi; omega
      · have := U2.out; have := HZ.out.sz.sl; omega
      · have := Y2.out i hi; omega
end Go.Proofs.Ytljdfanebjhhmaa
namespace Go.Proofs.Ytljdfanebjhhmaa
open Go Go.RowKit
set_option maxHeartbeats 1000000

theorem eqZ_any (A : Option Addr) (n c : Nat) (f : List (List Int)) (B : Option Addr) (m d : Nat) (s : List (List Int)) (A2 : Option Addr) (n2 c2 : Nat) (f2 : List (List Int)) (B2 : Option Addr) (m2 d2 : Nat) (s2 : List (List Int)) (r : Bool) (w : World)
    (hz : ZArg 1048576 w A n f B m s) (hz2 : ZArg 1048576 w A2 n2 f2 B2 m2 s2) (hr : r = true ↔ f = f2 ∧ s = s2) :
    Calls Try.prog 32 #[.agg #[.slice A n c, .slice B m d], .agg #[.slice A2 n2 c2, .slice B2 m2 d2]] w fun e w' => e = .returned (.bool r) ∧ Below w.heap.size w w' := by
  have HZ := hide hz
  have HZ2 := hide hz2
  have HR := hide hr
  clear hz hz2 hr
  have HB0 := hide (((Below.refl _ w).alloc (Nat.le_refl _) (Obj.cells #[Value.slice A n c, Value.slice B m d] 46)).alloc (by simp) (Obj.cells #[Value.slice A2 n2 c2, Value.slice B2 m2 d2] 46))
  have HK0 := hide ((Blk.new w 46 [.slice A n c, .slice B m d]).alloc (Obj.cells #[Value.slice A2 n2 c2, Value.slice B2 m2 d2] 46))
  have HL0 := hide (Blk.new (w.alloc (Obj.cells #[Value.slice A n c, Value.slice B m d] 46)) 46 [.slice A2 n2 c2, .slice B2 m2 d2])
  simp at HL0
  by_cases h1 : f = f2
  · have H1 := hide h1
    clear h1
    by_cases h2 : s = s2
    · have H2 := hide h2
      have hrt : r = true := HR.out.2 ⟨H1.out, h2⟩
      subst hrt
      clear h2
      go_enter Try.func32, Try.ntmps32
      go_wp2_with fail
      refine (eqq_any _ _ _ _ _ _ f f2 true _ HZ.out.sz.fl HZ2.out.sz.fl (by have := HZ.out.sz.nb; omega) (by have := HZ2.out.sz.nb; omega) (fun i hi => by have := HZ.out.sz.nr i hi; omega) (fun i hi => by have := HZ2.out.sz.nr i hi; omega) (HZ.out.fst.later HB0.out) (HZ2.out.fst.later HB0.out) (by simp [H1.out])).mono ?_
      rintro e w1 ⟨rfl, hq1⟩
      have HB1 := hide (HB0.out.trans (hq1.below _))
      have k1 := (HK0.out.later (hq1.below _)).cell 1 _ rfl
      have k2 := (HL0.out.later (hq1.below _)).cell 1 _ rfl
      clear hq1
      go_wp2_with fail
      refine (eqq_any _ _ _ _ _ _ s s2 true _ HZ.out.sz.sl HZ2.out.sz.sl (by have := HZ.out.sz.mb; omega) (by have := HZ2.out.sz.mb; omega) (fun i hi => by have := HZ.out.sz.mr i hi; omega) (fun i hi => by have := HZ2.out.sz.mr i hi; omega) (HZ.out.snd.later HB1.out) (HZ2.out.snd.later HB1.out) (by simp [H2.out])).mono ?_
      rintro e w2 ⟨rfl, hq2⟩
      have HB2 := hide (HB1.out.trans (hq2.below _))
      clear hq2
      go_wp2_with fail
      go_ret
      exact ⟨rfl, HB2.out⟩
    · have H2 := hide h2
      have hrt : r = false := by
        cases r
        · rfl
        · exact absurd (HR.out.1 rfl).2 h2
      subst hrt
      clear h2
      go_enter Try.func32, Try.ntmps32
      go_wp2_with fail
      refine (eqq_any _ _ _ _ _ _ f f2 true _ HZ.out.sz.fl HZ2.out.sz.fl (by have := HZ.out.sz.nb; omega) (by have := HZ2.out.sz.nb; omega) (fun i hi => by have := HZ.out.sz.nr i hi; omega) (fun i hi => by have := HZ2.out.sz.nr i hi; omega) (HZ.out.fst.later HB0.out) (HZ2.out.fst.later HB0.out) (by simp [H1.out])).mono ?_
      rintro e w1 ⟨rfl, hq1⟩
      have HB1 := hide (HB0.out.trans (hq1.below _))
      have k1 := (HK0.out.later (hq1.below _)).cell 1 _ rfl
      have k2 := (HL0.out.later (hq1.below _)).cell 1 _ rfl
      clear hq1
      go_wp2_with fail
      refine (eqq_any _ _ _ _ _ _ s s2 false _ HZ.out.sz.sl HZ2.out.sz.sl (by have := HZ.out.sz.mb; omega) (by have := HZ2.out.sz.mb; omega) (fun i hi => by have := HZ.out.sz.mr i hi; omega) (fun i hi => by have := HZ2.out.sz.mr i hi; omega) (HZ.out.snd.later HB1.out) (HZ2.out.snd.later HB1.out) (by simp [H2.out])).mono ?_
      rintro e w2 ⟨rfl, hq2⟩
      have HB2 := hide (HB1.out.trans (hq2.below _))
      clear hq2
      go_wp2_with fail
      go_ret
      exact ⟨rfl, HB2.out⟩
  · have H1 := hide h1
    have hrt : r = false := by
      cases r
      · rfl
      · exact absurd (HR.out.1 rfl).1 h1
    subst hrt
    clear h1
    go_enter Try.func32, Try.ntmps32
    go_wp2_with fail
    refine (eqq_any _ _ _ _ _ _ f f2 false _ HZ.out.sz.fl HZ2.out.sz.fl (by have := HZ.out.sz.nb; omega) (by have := HZ2.out.sz.nb; omega) (fun i hi => by have := HZ.out.sz.nr i hi; omega) (fun i hi => by have := HZ2.out.sz.nr i hi; omega) (HZ.out.fst.later HB0.out) (HZ2.out.fst.later HB0.out) (by simp [H1.out])).mono ?_
    rintro e w1 ⟨rfl, hq1⟩
    have HB1 := hide (HB0.out.trans (hq1.below _))
    clear hq1
    go_wp2_with fail
    go_ret
    exact ⟨rfl, HB1.out⟩
end Go.Proofs.Ytljdfanebjhhmaa
namespace Go.Proofs.Ytljdfanebjhhmaa
open Go Go.RowKit
set_option maxHeartbeats 1000000

theorem markZ (ts t : TypeId) (hne : ts ≠ t) (lo hi : Nat) (A : Option Addr) (n c : Nat) (B : Option Addr) (m d : Nat) (k : Int) (f s : List (List Int)) (w : World) (sz : ZSz 1048576 f n s m) (ht : tot f + tot s ≤ 2305843009213693952) (hk : 0 ≤ k) (hk2 : k ≤ 1152921504606846976) (hr : ObjZ ts t lo hi w A f B s) (hhi : hi ≤ w.heap.size) :
    Calls Try.prog 33 #[.agg #[.slice A n c, .slice B m d], .int .i64 k] w fun e w' => e = .returned (.int .i64 (k + (tot f : Int) + (tot s : Int))) ∧ Touch lo hi w w' ∧ ObjZ ts t lo hi w' A (marks2 k f) B (marks2 (k + (tot f : Int)) s) := by
  obtain ⟨mid, h1, h2, h3, h4⟩ := hr
  have HNE := hide hne
  have SZ := hide sz
  have H3 := hide h3
  have H4 := hide h4
  have HT := hide ht
  have HTF := hide sz.totf
  clear hne sz h3 h4 ht
  have htf := HTF.out
  obtain ⟨F, hF⟩ : ∃ F, tot f = F := ⟨_, rfl⟩
  obtain ⟨S, hS⟩ : ∃ S, tot s = S := ⟨_, rfl⟩
  rw [hF, hS]
  rw [hF] at htf
  have HF := hide hF
  have HS := hide hS
  have hk0 : Below w.heap.size w (w.alloc (Obj.cells #[Value.slice A n c, Value.slice B m d] 46)) := (Below.refl _ w).alloc (Nat.le_refl _) _
  have HB0 := hide hk0
  have HK0 := hide (Blk.new w 46 [.slice A n c, .slice B m d])
  clear hF hS hk0
  go_enter Try.func33, Try.ntmps33
  go_wp2_with fail
  refine (markT ts t HNE.out lo mid _ _ _ _ f _ SZ.out.fl SZ.out.nb SZ.out.nr (by have := HT.out; omega) hk (by omega) (H3.out.later HB0.out)).mono ?_
  rintro e w1 ⟨rfl, ht1, ho1⟩
  have HT1 := hide ((Touch.of_below HB0.out).trans (ht1.wide (Nat.le_refl _) h2))
  have HO1 := hide ho1
  have HP1 := hide (((H4.out.later HB0.out).far ht1 (.inr (Nat.le_refl _))))
  have HK1 := hide (HK0.out.touch ht1 (.inr (by omega)))
  have k1 := HK1.out.cell 1 _ rfl
  clear ht1 ho1
  rw [HF.out]
  go_wp2_with fail
  refine (markT ts t HNE.out mid hi _ _ _ _ s _ SZ.out.sl SZ.out.mb SZ.out.mr (by have := HT.out; omega) (by omega) (by omega) HP1.out).mono ?_
  rintro e w2 ⟨rfl, ht2, ho2⟩
  have HT2 := hide (HT1.out.trans (ht2.wide h1 (Nat.le_refl _)))
  have HO2 := hide (HO1.out.far ht2 (.inl (Nat.le_refl _)))
  have HP2 := hide ho2
  clear ht2 ho2
  rw [HS.out]
  go_wp2_with fail
  go_ret
  exact ⟨rfl, HT2.out, mid, h1, h2, HO2.out, HP2.out⟩

theorem heldZ (A : Option Addr) (n c : Nat) (B : Option Addr) (m d : Nat) (k : Int) (f s : List (List Int)) (w : World) (sz : ZSz 1048576 f n s m) (ht : tot f + tot s ≤ 2305843009213693952) (hk : 0 ≤ k) (hk2 : k ≤ 1152921504606846976) (hf : Rd2 w A (marks2 k f)) (hs : Rd2 w B (marks2 (k + (tot f : Int)) s)) :
    Calls Try.prog 34 #[.agg #[.slice A n c, .slice B m d], .int .i64 k] w fun e w' => e = .returned (.int .i64 (k + (tot f : Int) + (tot s : Int))) ∧ Below w.heap.size w w' := by
  have SZ := hide sz
  have HT := hide ht
  have HTF := hide sz.totf
  have HTG := hide sz.totg
  have HRF := hide hf
  have HRS := hide hs
  clear sz ht hf hs
  have htf := HTF.out
  have htg := HTG.out
  obtain ⟨F, hF⟩ : ∃ F, tot f = F := ⟨_, rfl⟩
  obtain ⟨S, hS⟩ : ∃ S, tot s = S := ⟨_, rfl⟩
  rw [hF, hS]
  rw [hF] at htf
  rw [hS] at htg
  have HF := hide hF
  have HS := hide hS
  have HB0 := hide ((Below.refl _ w).alloc (Nat.le_refl _) (Obj.cells #[Value.slice A n c, Value.slice B m d] 46))
  have HK0 := hide (Blk.new w 46 [.slice A n c, .slice B m d])
  clear hF hS
  go_enter Try.func34, Try.ntmps34
  go_wp2_with fail
  refine (heldT _ _ _ _ f _ SZ.out.fl SZ.out.nb SZ.out.nr (by have := HT.out; omega) hk (by omega) (HRF.out.later HB0.out)).mono ?_
  rintro e w1 ⟨rfl, hq1⟩
  have HB1 := hide (HB0.out.trans (hq1.below _))
  have k1 := (HK0.out.later (hq1.below _)).cell 1 _ rfl
  clear hq1
  rw [HF.out]
  have hn1 : ¬ (k + (F : Int) < 0) := by omega
  go_wp2_with fail
  refine (heldT _ _ _ _ s _ SZ.out.sl SZ.out.mb SZ.out.mr (by have := HT.out; omega) (by omega) (by omega) (by rw [← HF.out]; exact HRS.out.later HB1.out)).mono ?_
  rintro e w2 ⟨rfl, hq2⟩
  have HB2 := hide (HB1.out.trans (hq2.below _))
  clear hq2
  rw [HS.out]
  have hn2 : ¬ (k + (F : Int) + (S : Int) < 0) := by omega
  go_wp2_with fail
  go_ret
  exact ⟨rfl, HB2.out⟩
end Go.Proofs.Ytljdfanebjhhmaa
namespace Go.Proofs.Ytljdfanebjhhmaa
open Go Go.RowKit
set_option maxHeartbeats 1000000

theorem size_any (A : Option Addr) (n c : Nat) (B : Option Addr) (m d : Nat) (w : World) (_hn : n ≤ 1048576) :
    Calls Try.prog 65 #[.agg #[.slice A n c, .slice B m d]] w fun e w' => e = .returned (.int .i64 n) ∧ Below w.heap.size w w' := by
  have HB0 := hide ((Below.refl _ w).alloc (Nat.le_refl _) (Obj.cells #[Value.slice A n c, Value.slice B m d] 46))
  go_enter Try.func65, Try.ntmps65
  go_wp2_with fail
  go_ret
  exact ⟨rfl, HB0.out⟩
end Go.Proofs.Ytljdfanebjhhmaa
