import Derived.Test.YtchpclgkinehhaaZbd
import Derived.Test.YtchpclgkinehhaaZo
import Derived.Test.YtchpclgkinehhaaZbe
import Derived.Test.YtchpclgkinehhaaZax
import Derived.Test.YtchpclgkinehhaaZc
import Derived.Test.YtchpclgkinehhaaZa
namespace Go.Proofs.Ytchpclgkinehhaa
open Go Go.RowKit
set_option maxHeartbeats 2000000

theorem TabF.touch {ts t : TypeId} {lo hi : Nat} {w w' : World} {g : Nat} {G : Nat → Nat} {n : Nat} {f : Nat → Nat → Int} (h : TabF ts t w g G n f) (ht : Touch lo hi w w') (hg : g < lo ∨ hi ≤ g) (hG : ∀ i, i < n → (G i < lo ∨ hi ≤ G i)) : TabF ts t w' g G n f := h.far ht hg hG

theorem rfrom_any (lo mid hi g1 g2 : Nat) (G1 G2 : Nat → Nat) (n c1 c2 : Nat) (f1 f2 : Nat → Nat → Int) (A : Option Addr) (c : Nat) (f : List (List Int)) (B : Option Addr) (d : Nat) (s : List (List Int)) (D : Option Addr) (k : Nat) (p : List Int) (w0 w : World)
    (hn : f.length = n) (hm : s.length = n) (hpl : p.length = n) (hb : n ≤ 1048576) (hf : Tbl f) (hs : Tbl s) (hpin : ∀ x ∈ p, 0 ≤ x ∧ x < (n : Int)) (hfst : Rd2 w0 A f) (hsnd : Rd2 w0 B s) (hp : ∀ w3, Touch lo hi w w3 → Rd w3 D p) (hbe : Below w0.heap.size w0 w) (hlo : w0.heap.size ≤ lo)
    (h1 : TabF 31 2 w g1 G1 n f1) (h2 : TabF 31 2 w g2 G2 n f2) (r1 : lo ≤ g1 ∧ g1 < mid) (r2 : ∀ i, i < n → lo ≤ G1 i ∧ G1 i < mid) (r3 : mid ≤ g2 ∧ g2 < hi) (r4 : ∀ i, i < n → mid ≤ G2 i ∧ G2 i < hi) (r5 : hi ≤ w.heap.size) :
    Calls Try.prog 89 #[.agg #[.slice (some ⟨g1, 0, none⟩) n c1, .slice (some ⟨g2, 0, none⟩) n c2], .agg #[.slice A n c, .slice B n d], .slice D n k] w fun e w' => e = .returned (.tuple #[]) ∧ Touch lo hi w w' ∧ TabF 31 2 w' g1 G1 n (renTo f p n n f1) ∧ TabF 31 2 w' g2 G2 n (renTo s p n n f2) := by
  have HN := hide hn
  have HM := hide hm
  have HL := hide hpl
  have HF := hide hf
  have HS := hide hs
  have HPI := hide hpin
  have HP := hide hp
  have H1 := hide h1
  have H2 := hide h2
  have R2 := hide r2
  have R4 := hide r4
  clear hn hm hpl hf hs hpin hp h1 h2 r2 r4
  go_enter Try.func89, Try.ntmps89
  go_wp2_with fail
  refine calls_gen fun w1 hw1 => ?_
  have hb1 : Below w.heap.size w w1 := by rw [hw1]; exact ((Below.refl _ _).alloc (Nat.le_refl _) _).alloc (by simp) _
  have HK : Hid (Blk w1 w.heap.size 40 [.slice (some ⟨g1, 0, none⟩) n c1, .slice (some ⟨g2, 0, none⟩) n c2]) := hide (by rw [hw1]; exact (Blk.new _ _ _).alloc _)
  have HJ : Hid (Blk w1 (w.heap.size + 1) 40 [.slice A n c, .slice B n d]) := hide (by rw [hw1]; have h := Blk.new (w.alloc (Obj.cells #[Value.slice (some ⟨g1, 0, none⟩) n c1, Value.slice (some ⟨g2, 0, none⟩) n c2] 40)) 40 [.slice A n c, .slice B n d]; simpa using h)
  have HB1 := hide (hbe.trans (hb1.mono hbe.size))
  have HT1 : Hid (Touch lo hi w w1) := hide (Touch.of_below hb1)
  have HA1 := hide (H1.out.later hb1)
  have HA2 := hide (H2.out.later hb1)
  clear hw1 hb1
  refine (renameInto_gen g1 lo mid G1 n c1 f1 A c f D k p w0 w1 HN.out HL.out hb (fun i hi => HF.out.row_len HN.out (by have := HN.out; omega)) (HF.out.inr' HN.out) HPI.out hfst (fun w3 ht => HP.out w3 (HT1.out.trans (ht.wide (Nat.le_refl _) (by omega)))) HB1.out hlo R2.out HA1.out).mono ?_
  rintro e w2 ⟨rfl, ht2, htab2, hs2⟩
  have HT2 := hide (HT1.out.trans (ht2.wide (Nat.le_refl lo) (by omega : mid ≤ hi)))
  have HB2 := hide (ht2.below HB1.out HB1.out.size hlo)
  have HA1' := hide htab2
  have HA2' := hide (HA2.out.far ht2 (.inr r3.1) (fun i hi => .inr (R4.out i hi).1))
  have HK2 := hide (HK.out.touch ht2 (.inr (by omega)))
  have HJ2 := hide (HJ.out.touch ht2 (.inr (by omega)))
  have k0 := HK2.out.cell 1 _ rfl
  have k1 := HJ2.out.cell 1 _ rfl
  clear ht2 htab2 hs2
  go_wp2_with fail
  refine (renameInto_gen g2 mid hi G2 n c2 f2 B d s D k p w0 w2 HM.out HL.out hb (fun i hi => HS.out.row_len HM.out (by have := HM.out; omega)) (HS.out.inr' HM.out) HPI.out hsnd (fun w3 ht => HP.out w3 (HT2.out.trans (ht.wide (by omega) (Nat.le_refl _)))) HB2.out (by omega) R4.out HA2'.out).mono ?_
  rintro e w3 ⟨rfl, ht3, htab3, hs3⟩
  have HT3 := hide (HT2.out.trans (ht3.wide (by omega : lo ≤ mid) (Nat.le_refl hi)))
  have HA1'' := hide (HA1'.out.far ht3 (.inl r1.2) (fun i hi => .inl (R2.out i hi).2))
  have HA2'' := hide htab3
  clear ht3 htab3 hs3
  go_wp2_with fail
  go_end0
  exact ⟨rfl, HT3.out, HA1''.out, HA2''.out⟩

set_option maxRecDepth 100000 in
theorem rsI_any (A : Option Addr) (n c : Nat) (f : List (List Int)) (B : Option Addr) (m d : Nat) (s : List (List Int)) (D : Option Addr) (l e : Nat) (p : List Int) (zf zg : List (List Int)) (code : Int) (kz kw : Nat) (w : World) (hz : ZArg 1048576 w A n f B m s) (hl : p.length = l) (hlb : l ≤ 1048576) (hpr : Rd w D p) (hr : RsRes f s p zf zg code) (hk : ZSz 1048576 zf kz zg kw) :
    Calls Try.prog 52 #[.agg #[.slice A n c, .slice B m d], .slice D l e] w (ZPost 31 2 kz kw zf zg code w) := by
  have hnb := hz.sz.nb
  have HZ := hide hz
  have HL := hide hl
  have HFL := hide hz.sz.fl
  rcases hr with ⟨hp, hq, rfl, rfl, rfl⟩ | ⟨hp, hq, rfl, rfl, rfl⟩ | ⟨hp, rfl, rfl, rfl⟩
  · have HP := hide hp
    have HQ := hide hq.1
    have h12 := hz.small hp
    obtain rfl := hz.same hp
    obtain rfl : l = m := by rw [← hl, hq.2]; exact HFL.out
    obtain rfl : kz = l := by rw [← hk.fl, renL_length, HFL.out]
    obtain rfl : kw = kz := by rw [← hk.sl, renL_length]; exact hz.sz.sl
    have HSL := hide hz.sz.sl
    have HPI : Hid (∀ x ∈ p, 0 ≤ x ∧ x < (kw : Int)) := hide (by have := hq.1.2.2.1; rw [hl] at this; exact this)
    have hne : ((kw : Int) != (kw : Int)) = false := by simp
    clear hp hq hz hk hl
    go_enter Try.func52, Try.ntmps52
    go_wp2_with fail
    refine calls_gen fun w0 hw0 => ?_
    have hb0 : Below w.heap.size w w0 := by rw [hw0]; exact ((Below.refl _ _).alloc (Nat.le_refl _) _).alloc (by simp) _
    have HB := hide hb0
    have HK : Hid (Blk w0 w.heap.size 40 [.slice A kw c, .slice B kw d]) := hide (by rw [hw0]; exact (Blk.new _ _ _).alloc _)
    have HR : Hid (Blk w0 (w.heap.size + 1) 40 [.slice none 0 0, .slice none 0 0]) := hide (by rw [hw0]; have h := Blk.new (w.alloc (Obj.cells #[Value.slice A kw c, Value.slice B kw d] 40)) 40 [.slice none 0 0, .slice none 0 0]; simpa using h)
    clear hw0 hb0
    refine (mapI_any _ _ _ f _ _ _ s true _ (HZ.out.later HB.out) (by simp [HP.out])).mono ?_
    rintro _ wd ⟨rfl, hbd⟩
    replace HK := hide (HK.out.later hbd)
    replace HR := hide (HR.out.later hbd)
    have HB' := hide (HB.out.trans (hbd.mono HB.out.size))
    replace HB := HB'
    clear HB' hbd
    have k0 := HK.out.cell 0 _ rfl
    have k1 := HK.out.cell 1 _ rfl
    go_wp2_with fail
    clear k0 k1
    refine (isPerm_any _ _ _ p true _ HL.out (by omega) (hpr.later HB.out) (by simp [HQ.out])).mono ?_
    rintro _ wd ⟨rfl, hbd⟩
    replace HK := hide (HK.out.later hbd)
    replace HR := hide (HR.out.later hbd)
    have HB' := hide (HB.out.trans (hbd.mono HB.out.size))
    replace HB := HB'
    clear HB' hbd
    have k0 := HK.out.cell 0 _ rfl
    have k1 := HK.out.cell 1 _ rfl
    go_wp2_with fail
    clear k0 k1
    refine (newTable_any kw _ (by omega)).mono ?_
    rintro _ w1 ⟨rfl, hb1, ht1, hs1⟩
    have HD1 := hide hb1
    have HB1 := hide (HB.out.trans (hb1.mono HB.out.size))
    have HK1 := hide (HK.out.later hb1)
    have HR1 := hide (HR.out.later hb1)
    have HT1 := hide ht1
    have Z1 := hide hs1
    have k0 := HK1.out.cell 0 _ rfl
    have k1 := HK1.out.cell 1 _ rfl
    clear hb1 ht1 hs1
    go_wp2_with fail
    clear k0 k1
    refine (newTable_any kw _ (by omega)).mono ?_
    rintro _ w2 ⟨rfl, hb2, ht2, hs2⟩
    have HD2 := hide (HD1.out.trans (hb2.mono HD1.out.size))
    have HB2 := hide (HB1.out.trans (hb2.mono HB1.out.size))
    have HK2 := hide (HK1.out.later hb2)
    have HR2 := hide (HR1.out.later hb2)
    have HT12 := hide (HT1.out.later hb2)
    have HT2 := hide ht2
    have Z2 := hide hs2
    have k0 := HK2.out.cell 0 _ rfl
    have k1 := HK2.out.cell 1 _ rfl
    have k2 := fun o => (HK2.out.alloc o).cell 0 _ rfl
    have k3 := fun o => (HK2.out.alloc o).cell 1 _ rfl
    clear hb2 ht2 hs2
    go_wp2_with fail
    clear k0 k1 k2 k3
    refine calls_gen fun w3 hw3 => ?_
    have hb3 : Below w2.heap.size w2 w3 := by rw [hw3]; exact (Below.refl _ _).alloc (Nat.le_refl _) _
    have HD3 := hide (HD2.out.trans (hb3.mono HD2.out.size))
    have HB3 := hide (HB2.out.trans (hb3.mono HB2.out.size))
    have HS3 : Hid (Blk w3 w2.heap.size 40 [.slice (some ⟨wd.heap.size, 0, none⟩) kw kw, .slice (some ⟨w1.heap.size, 0, none⟩) kw kw]) := hide (by rw [hw3]; exact Blk.new _ _ _)
    have HR3 := hide (HR2.out.later hb3)
    have HT13 := hide (HT12.out.later hb3)
    have HT23 := hide (HT2.out.later hb3)
    have Z3 : Hid (w3.heap.size = w2.heap.size + 1) := hide (by rw [hw3]; simp)
    have hrl : w.heap.size + 1 < wd.heap.size := HR.out.lt
    clear hw3 hb3
    refine (rfrom_any wd.heap.size w1.heap.size w2.heap.size _ _ _ _ kw _ _ _ _ _ _ f _ _ s _ _ p wd w3 HFL.out HSL.out HL.out (by omega) HP.out.1 HP.out.2.1 HPI.out (HZ.out.later HB.out).fst (HZ.out.later HB.out).snd (fun w4 ht => ?_) ?_ (Nat.le_refl _) HT13.out HT23.out (by have z1 := Z1.out; omega) (fun i hi => by have z1 := Z1.out; omega) (by have z2 := Z2.out; omega) (fun i hi => by have z2 := Z2.out; omega) (by have z3 := Z3.out; omega)).mono ?_
    · exact hpr.later (ht.below HB3.out HB3.out.size HB.out.size)
    · exact HD3.out
    rintro _ w4 ⟨rfl, ht4, hta4, htb4⟩
    have HB4 := hide (ht4.below HB3.out HB3.out.size HB.out.size)
    have HS4 := hide (HS3.out.touch ht4 (.inr (Nat.le_refl _)))
    have HR4 := hide (HR3.out.touch ht4 (.inl hrl))
    have HTA := hide hta4
    have HTB := hide htb4
    have S4 := ht4.size
    have k0 := HS4.out.cell 0 _ rfl
    have k1 := HS4.out.cell 1 _ rfl
    have k2 := HR4.out.cell 0 _ rfl
    have k3 := HR4.out.cell 1 _ rfl
    have k4 := HR4.out.frozen 0
    have k5 := HR4.out.frozen 1
    clear ht4 hta4 htb4
    go_wp2_with fail
    refine bp_gen fun wf hwf => ?_
    have z1 := Z1.out
    have z2 := Z2.out
    have z3 := Z3.out
    have ho : ObjZ 31 2 wd.heap.size w4.heap.size w4 (some ⟨wd.heap.size, 0, none⟩) (renL f p) (some ⟨w1.heap.size, 0, none⟩) (renL s p) := by
      refine ⟨w1.heap.size, by omega, by omega, ?_, ?_⟩
      · unfold renL
        rw [HFL.out]
        exact HTA.out.obj (Nat.le_refl _) (by omega) (fun i hi => by omega)
      · unfold renL
        rw [HSL.out]
        exact HTB.out.obj (Nat.le_refl _) (by omega) (fun i hi => by omega)
    obtain ⟨q0, q1, hbf, hof⟩ := zend hwf HR4.out (by omega) hrl HB4.out HB.out.size ho
    clear hwf k0 k1 k2 k3 k4 k5
    exact bodyPost_ret (v := .tuple #[.agg #[.slice (some ⟨wd.heap.size, 0, none⟩) kw kw, .slice (some ⟨w1.heap.size, 0, none⟩) kw kw], .int .i64 0]) (by simp [results, Try.results52, go_sem, q0, q1]) rfl ⟨_, _, _, _, rfl, hbf, hof⟩
  · have HP := hide hp
    by_cases h1 : Prm p
    · have HQ := hide h1
      have hne : ((l : Int) != (n : Int)) = true := by have h2 : ¬ p.length = f.length := fun h => hq ⟨h1, h⟩; have := HFL.out; simp; omega
      clear hp hq hz hl h1
      obtain rfl : kz = 0 := by simpa using hk.fl.symm
      obtain rfl : kw = 0 := by simpa using hk.sl.symm
      clear hk
      go_enter Try.func52, Try.ntmps52
      go_wp2_with fail
      refine calls_gen fun w0 hw0 => ?_
      have hb0 : Below w.heap.size w w0 := by rw [hw0]; exact ((Below.refl _ _).alloc (Nat.le_refl _) _).alloc (by simp) _
      have HB := hide hb0
      have HK : Hid (Blk w0 w.heap.size 40 [.slice A n c, .slice B m d]) := hide (by rw [hw0]; exact (Blk.new _ _ _).alloc _)
      have HR : Hid (Blk w0 (w.heap.size + 1) 40 [.slice none 0 0, .slice none 0 0]) := hide (by rw [hw0]; have h := Blk.new (w.alloc (Obj.cells #[Value.slice A n c, Value.slice B m d] 40)) 40 [.slice none 0 0, .slice none 0 0]; simpa using h)
      clear hw0 hb0
      refine (mapI_any _ _ _ f _ _ _ s true _ (HZ.out.later HB.out) (by simp [HP.out])).mono ?_
      rintro _ wd ⟨rfl, hbd⟩
      replace HK := hide (HK.out.later hbd)
      replace HR := hide (HR.out.later hbd)
      have HB' := hide (HB.out.trans (hbd.mono HB.out.size))
      replace HB := HB'
      clear HB' hbd
      have k0 := HK.out.cell 0 _ rfl
      have k1 := HK.out.cell 1 _ rfl
      go_wp2_with fail
      clear k0 k1
      refine (isPerm_any _ _ _ p true _ HL.out (by omega) (hpr.later HB.out) (by simp [HQ.out])).mono ?_
      rintro _ wd ⟨rfl, hbd⟩
      replace HK := hide (HK.out.later hbd)
      replace HR := hide (HR.out.later hbd)
      have HB' := hide (HB.out.trans (hbd.mono HB.out.size))
      replace HB := HB'
      clear HB' hbd
      have k0 := HK.out.cell 0 _ rfl
      have k1 := HK.out.cell 1 _ rfl
      have k2 := HR.out.cell 0 _ rfl
      have k3 := HR.out.cell 1 _ rfl
      have k4 := HR.out.frozen 0
      have k5 := HR.out.frozen 1
      go_wp2_with fail
      refine bp_gen fun wf hwf => ?_
      obtain ⟨q0, q1, hbf, hof⟩ := zend (ts := 31) (t := 2) (w2 := wd) hwf HR.out (by omega) HR.out.lt HB.out HB.out.size (ObjZ.empty (Nat.le_refl _))
      clear hwf k0 k1 k2 k3 k4 k5
      exact bodyPost_ret (v := .tuple #[.agg #[.slice none 0 0, .slice none 0 0], .int .i64 2]) (by simp [results, Try.results52, go_sem, q0, q1]) rfl ⟨_, _, _, _, rfl, hbf, hof⟩
    · have HQ := hide h1
      clear hp hq hz hl h1
      obtain rfl : kz = 0 := by simpa using hk.fl.symm
      obtain rfl : kw = 0 := by simpa using hk.sl.symm
      clear hk
      go_enter Try.func52, Try.ntmps52
      go_wp2_with fail
      refine calls_gen fun w0 hw0 => ?_
      have hb0 : Below w.heap.size w w0 := by rw [hw0]; exact ((Below.refl _ _).alloc (Nat.le_refl _) _).alloc (by simp) _
      have HB := hide hb0
      have HK : Hid (Blk w0 w.heap.size 40 [.slice A n c, .slice B m d]) := hide (by rw [hw0]; exact (Blk.new _ _ _).alloc _)
      have HR : Hid (Blk w0 (w.heap.size + 1) 40 [.slice none 0 0, .slice none 0 0]) := hide (by rw [hw0]; have h := Blk.new (w.alloc (Obj.cells #[Value.slice A n c, Value.slice B m d] 40)) 40 [.slice none 0 0, .slice none 0 0]; simpa using h)
      clear hw0 hb0
      refine (mapI_any _ _ _ f _ _ _ s true _ (HZ.out.later HB.out) (by simp [HP.out])).mono ?_
      rintro _ wd ⟨rfl, hbd⟩
      replace HK := hide (HK.out.later hbd)
      replace HR := hide (HR.out.later hbd)
      have HB' := hide (HB.out.trans (hbd.mono HB.out.size))
      replace HB := HB'
      clear HB' hbd
      have k0 := HK.out.cell 0 _ rfl
      have k1 := HK.out.cell 1 _ rfl
      go_wp2_with fail
      clear k0 k1
      refine (isPerm_any _ _ _ p false _ HL.out (by omega) (hpr.later HB.out) (by simp [HQ.out])).mono ?_
      rintro _ wd ⟨rfl, hbd⟩
      replace HK := hide (HK.out.later hbd)
      replace HR := hide (HR.out.later hbd)
      have HB' := hide (HB.out.trans (hbd.mono HB.out.size))
      replace HB := HB'
      clear HB' hbd
      have k0 := HK.out.cell 0 _ rfl
      have k1 := HK.out.cell 1 _ rfl
      have k2 := HR.out.cell 0 _ rfl
      have k3 := HR.out.cell 1 _ rfl
      have k4 := HR.out.frozen 0
      have k5 := HR.out.frozen 1
      go_wp2_with fail
      refine bp_gen fun wf hwf => ?_
      obtain ⟨q0, q1, hbf, hof⟩ := zend (ts := 31) (t := 2) (w2 := wd) hwf HR.out (by omega) HR.out.lt HB.out HB.out.size (ObjZ.empty (Nat.le_refl _))
      clear hwf k0 k1 k2 k3 k4 k5
      exact bodyPost_ret (v := .tuple #[.agg #[.slice none 0 0, .slice none 0 0], .int .i64 2]) (by simp [results, Try.results52, go_sem, q0, q1]) rfl ⟨_, _, _, _, rfl, hbf, hof⟩
  · have HP := hide hp
    clear hp hz hl
    obtain rfl : kz = 0 := by simpa using hk.fl.symm
    obtain rfl : kw = 0 := by simpa using hk.sl.symm
    clear hk
    go_enter Try.func52, Try.ntmps52
    go_wp2_with fail
    refine calls_gen fun w0 hw0 => ?_
    have hb0 : Below w.heap.size w w0 := by rw [hw0]; exact ((Below.refl _ _).alloc (Nat.le_refl _) _).alloc (by simp) _
    have HB := hide hb0
    have HK : Hid (Blk w0 w.heap.size 40 [.slice A n c, .slice B m d]) := hide (by rw [hw0]; exact (Blk.new _ _ _).alloc _)
    have HR : Hid (Blk w0 (w.heap.size + 1) 40 [.slice none 0 0, .slice none 0 0]) := hide (by rw [hw0]; have h := Blk.new (w.alloc (Obj.cells #[Value.slice A n c, Value.slice B m d] 40)) 40 [.slice none 0 0, .slice none 0 0]; simpa using h)
    clear hw0 hb0
    refine (mapI_any _ _ _ f _ _ _ s false _ (HZ.out.later HB.out) (by simp [HP.out])).mono ?_
    rintro _ wd ⟨rfl, hbd⟩
    replace HK := hide (HK.out.later hbd)
    replace HR := hide (HR.out.later hbd)
    have HB' := hide (HB.out.trans (hbd.mono HB.out.size))
    replace HB := HB'
    clear HB' hbd
    have k0 := HK.out.cell 0 _ rfl
    have k1 := HK.out.cell 1 _ rfl
    have k2 := HR.out.cell 0 _ rfl
    have k3 := HR.out.cell 1 _ rfl
    have k4 := HR.out.frozen 0
    have k5 := HR.out.frozen 1
    go_wp2_with fail
    refine bp_gen fun wf hwf => ?_
    obtain ⟨q0, q1, hbf, hof⟩ := zend (ts := 31) (t := 2) (w2 := wd) hwf HR.out (by omega) HR.out.lt HB.out HB.out.size (ObjZ.empty (Nat.le_refl _))
    clear hwf k0 k1 k2 k3 k4 k5
    exact bodyPost_ret (v := .tuple #[.agg #[.slice none 0 0, .slice none 0 0], .int .i64 1]) (by simp [results, Try.results52, go_sem, q0, q1]) rfl ⟨_, _, _, _, rfl, hbf, hof⟩
end Go.Proofs.Ytchpclgkinehhaa
namespace Go.Proofs.Ytchpclgkinehhaa
open Go Go.RowKit
set_option maxHeartbeats 2000000

theorem lrenS_any (A : Option Addr) (n c : Nat) (f : List (List Int)) (B : Option Addr) (d : Nat) (s : List (List Int)) (D : Option Addr) (e : Nat) (p : List Int) (w : World) (hz : ZArg 1048576 w A n f B n s) (hp : PMap f s) (hl : p.length = n) (hpi : ∀ x ∈ p, 0 ≤ x ∧ x < (n : Int)) (hpr : Rd w D p) :
    Calls Try.prog 85 #[.agg #[.slice A n c, .slice B n d], .slice D n e] w fun e w' => ∃ A' c' B' d', e = .returned (.agg #[.slice A' n c', .slice B' n d']) ∧ Below w.heap.size w w' ∧ ObjW 31 2 w.heap.size w'.heap.size w' A' (renL f p) B' (renL s p) := by
  have HZ := hide hz
  have HP := hide hp
  have HL := hide hl
  have HPI := hide hpi
  have h12 := hz.small hp
  clear hz hp hl hpi
  go_enter Try.func85, Try.ntmps85
  go_wp2_with fail
  refine wp_gen fun w0 hw0 => ?_
  have hb0 : Below w.heap.size w w0 := by rw [hw0]; exact ((Below.refl _ _).alloc (Nat.le_refl _) _).alloc (by simp) _
  have HBc := hide hb0
  have HK : Hid (Blk w0 w.heap.size 40 [.slice A n c, .slice B n d]) := hide (by rw [hw0]; exact (Blk.new _ _ _).alloc _)
  have HR : Hid (Blk w0 (w.heap.size + 1) 40 [.slice none 0 0, .slice none 0 0]) := hide (by rw [hw0]; have h := Blk.new (w.alloc (Obj.cells #[Value.slice A n c, Value.slice B n d] 40)) 40 [.slice none 0 0, .slice none 0 0]; simpa using h)
  clear hw0 hb0
  have k0 := HK.out.cell 0 _ rfl
  have k1 := HK.out.cell 1 _ rfl
  have k2 := HR.out.cell 0 _ rfl
  have k3 := HR.out.cell 1 _ rfl
  have k4 := HR.out.frozen 0
  have k5 := HR.out.frozen 1
  have tok1 : True := trivial
  go_region_held3 (fun w' => w'.cell? ⟨w.heap.size, 0, none⟩ = some (.slice A n c) ∧ w'.cell? ⟨w.heap.size, 1, none⟩ = some (.slice B n d)) (first | exact ⟨k0, k1⟩ | go_keep) (first | (go_at_call 106; have _t := tok1; clear _t tok1; go_must (refine calls_gen fun wc hwc => ?_; (first | have hbx := drew_below hwc | have hbx := eq_below hwc); replace HBc := hide (HBc.out.trans (hbx.mono HBc.out.size)); replace HK := hide (HK.out.later hbx); replace HR := hide (HR.out.later hbx); clear hwc hbx; have hrl := HR.out.lt; refine (l01Rename_any _ _ _ f _ _ p _ HZ.out.sz.fl HL.out h12.1 (by omega) (fun i hi => HP.out.1.row_len HZ.out.sz.fl (by have := HZ.out.sz.fl; omega)) (HP.out.1.inr' HZ.out.sz.fl) HPI.out (HZ.out.later HBc.out).fst (hpr.later HBc.out)).mono ?_; rintro e wd ⟨A3, c3, rfl, hbd, ho3⟩; replace HBc := hide (HBc.out.trans (hbd.mono HBc.out.size)); replace HK := hide (HK.out.later hbd); replace HR := hide (HR.out.later hbd); clear hbd; have k0 := HK.out.cell 0 _ rfl; have k1 := HK.out.cell 1 _ rfl; have k2 := HR.out.cell 0 _ rfl; have k3 := HR.out.cell 1 _ rfl; have HO3 := hide (ObjT.of (lo' := w.heap.size + 1 + 1) ho3 hrl (Nat.le_refl _)); clear ho3 hrl; have k4 := HR.out.frozen 0; have k5 := HR.out.frozen 1)) | (go_at_call 106; go_must (refine calls_gen fun wc hwc => ?_; (first | have hbx := drew_below hwc | have hbx := eq_below hwc); replace HBc := hide (HBc.out.trans (hbx.mono HBc.out.size)); replace HK := hide (HK.out.later hbx); replace HR := hide (HR.out.later hbx); replace HO3 := hide (HO3.out.later hbx); clear hwc hbx; have hrl := HR.out.lt; refine (l01Rename_any _ _ _ s _ _ p _ HZ.out.sz.sl HL.out h12.1 (by omega) (fun i hi => HP.out.2.1.row_len HZ.out.sz.sl (by have := HZ.out.sz.sl; omega)) (HP.out.2.1.inr' HZ.out.sz.sl) HPI.out (HZ.out.later HBc.out).snd (hpr.later HBc.out)).mono ?_; rintro e wd ⟨A4, c4, rfl, hbd, ho4⟩; replace HBc := hide (HBc.out.trans (hbd.mono HBc.out.size)); replace HK := hide (HK.out.later hbd); replace HR := hide (HR.out.later hbd); replace HO3 := hide (HO3.out.later hbd); clear hbd; have k0 := HK.out.cell 0 _ rfl; have k1 := HK.out.cell 1 _ rfl; have k2 := HR.out.cell 0 _ rfl; have k3 := HR.out.cell 1 _ rfl; have HO4 := hide (ObjT.of (lo' := w.heap.size + 1 + 1) ho4 hrl (Nat.le_refl _)); clear ho4 hrl; have k4 := HR.out.frozen 0; have k5 := HR.out.frozen 1)))
  go_wp2_with fail
  refine bp_gen fun wf hwf => ?_
  obtain ⟨q0, q1, hbf, hof⟩ := wend2 hwf HR.out (by omega) HBc.out HO3.out HO4.out
  clear hwf k0 k1 k2 k3 k4 k5
  exact bodyPost_ret (v := .agg #[.slice A3 n c3, .slice A4 n c4]) (by simp [results, Try.results85, go_sem, q0, q1]) rfl ⟨_, _, _, _, rfl, hbf, hof⟩

set_option maxRecDepth 100000 in
theorem rsS_any (A : Option Addr) (n c : Nat) (f : List (List Int)) (B : Option Addr) (m d : Nat) (s : List (List Int)) (D : Option Addr) (l e : Nat) (p : List Int) (zf zg : List (List Int)) (code : Int) (kz kw : Nat) (w : World) (hz : ZArg 1048576 w A n f B m s) (hl : p.length = l) (hlb : l ≤ 1048576) (hpr : Rd w D p) (hr : RsRes f s p zf zg code) (hk : ZSz 1048576 zf kz zg kw) :
    Calls Try.prog 49 #[.agg #[.slice A n c, .slice B m d], .slice D l e] w (WPost 31 2 kz kw zf zg code w) := by
  have hnb := hz.sz.nb
  have HZ := hide hz
  have HL := hide hl
  have HFL := hide hz.sz.fl
  rcases hr with ⟨hp, hq, rfl, rfl, rfl⟩ | ⟨hp, hq, rfl, rfl, rfl⟩ | ⟨hp, rfl, rfl, rfl⟩
  · have HP := hide hp
    have HQ := hide hq.1
    have h12 := hz.small hp
    obtain rfl := hz.same hp
    obtain rfl : l = m := by rw [← hl, hq.2]; exact HFL.out
    obtain rfl : kz = l := by rw [← hk.fl, renL_length, HFL.out]
    obtain rfl : kw = kz := by rw [← hk.sl, renL_length]; exact hz.sz.sl
    have HSL := hide hz.sz.sl
    have HPI : Hid (∀ x ∈ p, 0 ≤ x ∧ x < (kw : Int)) := hide (by have := hq.1.2.2.1; rw [hl] at this; exact this)
    have hne : ((kw : Int) != (kw : Int)) = false := by simp
    clear hp hq hz hk hl
    go_enter Try.func49, Try.ntmps49
    go_wp2_with fail
    refine calls_gen fun w0 hw0 => ?_
    have hb0 : Below w.heap.size w w0 := by rw [hw0]; exact ((Below.refl _ _).alloc (Nat.le_refl _) _).alloc (by simp) _
    have HB := hide hb0
    have HK : Hid (Blk w0 w.heap.size 40 [.slice A kw c, .slice B kw d]) := hide (by rw [hw0]; exact (Blk.new _ _ _).alloc _)
    have HR : Hid (Blk w0 (w.heap.size + 1) 40 [.slice none 0 0, .slice none 0 0]) := hide (by rw [hw0]; have h := Blk.new (w.alloc (Obj.cells #[Value.slice A kw c, Value.slice B kw d] 40)) 40 [.slice none 0 0, .slice none 0 0]; simpa using h)
    clear hw0 hb0
    refine (mapS_any _ _ _ f _ _ _ s true _ (HZ.out.later HB.out) (by simp [HP.out])).mono ?_
    rintro _ wd ⟨rfl, hbd⟩
    replace HK := hide (HK.out.later hbd)
    replace HR := hide (HR.out.later hbd)
    have HB' := hide (HB.out.trans (hbd.mono HB.out.size))
    replace HB := HB'
    clear HB' hbd
    have k0 := HK.out.cell 0 _ rfl
    have k1 := HK.out.cell 1 _ rfl
    go_wp2_with fail
    clear k0 k1
    refine (prmS_below _ _ _ p true _ HL.out (by omega) (hpr.later HB.out) (by simp [HQ.out])).mono ?_
    rintro _ wd ⟨rfl, hbd⟩
    replace HK := hide (HK.out.later hbd)
    replace HR := hide (HR.out.later hbd)
    have HB' := hide (HB.out.trans (hbd.mono HB.out.size))
    replace HB := HB'
    clear HB' hbd
    have k0 := HK.out.cell 0 _ rfl
    have k1 := HK.out.cell 1 _ rfl
    go_wp2_with fail
    clear k0 k1
    refine (lrenS_any _ _ _ f _ _ s _ _ p _ (HZ.out.later HB.out) HP.out HL.out HPI.out (hpr.later HB.out)).mono ?_
    rintro _ w3 ⟨A3, c3, B3, d3, rfl, hb3, ho3⟩
    have HB3 := hide (HB.out.trans (hb3.mono HB.out.size))
    have HR3 := hide (HR.out.later hb3)
    have HO3 := hide ho3
    have k2 := HR3.out.cell 0 _ rfl
    have k3 := HR3.out.cell 1 _ rfl
    have k4 := HR3.out.frozen 0
    have k5 := HR3.out.frozen 1
    clear hb3 ho3
    go_wp2_with fail
    refine bp_gen fun wf hwf => ?_
    obtain ⟨q0, q1, hbf, hof⟩ := wend hwf HR3.out (by omega) HR.out.lt HB3.out HB.out.size HO3.out
    clear hwf k2 k3 k4 k5
    exact bodyPost_ret (v := .tuple #[.agg #[.slice A3 kw c3, .slice B3 kw d3], .int .i64 0]) (by simp [results, Try.results49, go_sem, q0, q1]) rfl ⟨_, _, _, _, rfl, hbf, hof⟩
  · have HP := hide hp
    by_cases h1 : Prm p
    · have HQ := hide h1
      have hne : ((l : Int) != (n : Int)) = true := by have h2 : ¬ p.length = f.length := fun h => hq ⟨h1, h⟩; have := HFL.out; simp; omega
      clear hp hq hz hl h1
      obtain rfl : kz = 0 := by simpa using hk.fl.symm
      obtain rfl : kw = 0 := by simpa using hk.sl.symm
      clear hk
      go_enter Try.func49, Try.ntmps49
      go_wp2_with fail
      refine calls_gen fun w0 hw0 => ?_
      have hb0 : Below w.heap.size w w0 := by rw [hw0]; exact ((Below.refl _ _).alloc (Nat.le_refl _) _).alloc (by simp) _
      have HB := hide hb0
      have HK : Hid (Blk w0 w.heap.size 40 [.slice A n c, .slice B m d]) := hide (by rw [hw0]; exact (Blk.new _ _ _).alloc _)
      have HR : Hid (Blk w0 (w.heap.size + 1) 40 [.slice none 0 0, .slice none 0 0]) := hide (by rw [hw0]; have h := Blk.new (w.alloc (Obj.cells #[Value.slice A n c, Value.slice B m d] 40)) 40 [.slice none 0 0, .slice none 0 0]; simpa using h)
      clear hw0 hb0
      refine (mapS_any _ _ _ f _ _ _ s true _ (HZ.out.later HB.out) (by simp [HP.out])).mono ?_
      rintro _ wd ⟨rfl, hbd⟩
      replace HK := hide (HK.out.later hbd)
      replace HR := hide (HR.out.later hbd)
      have HB' := hide (HB.out.trans (hbd.mono HB.out.size))
      replace HB := HB'
      clear HB' hbd
      have k0 := HK.out.cell 0 _ rfl
      have k1 := HK.out.cell 1 _ rfl
      go_wp2_with fail
      clear k0 k1
      refine (prmS_below _ _ _ p true _ HL.out (by omega) (hpr.later HB.out) (by simp [HQ.out])).mono ?_
      rintro _ wd ⟨rfl, hbd⟩
      replace HK := hide (HK.out.later hbd)
      replace HR := hide (HR.out.later hbd)
      have HB' := hide (HB.out.trans (hbd.mono HB.out.size))
      replace HB := HB'
      clear HB' hbd
      have k0 := HK.out.cell 0 _ rfl
      have k1 := HK.out.cell 1 _ rfl
      have k2 := HR.out.cell 0 _ rfl
      have k3 := HR.out.cell 1 _ rfl
      have k4 := HR.out.frozen 0
      have k5 := HR.out.frozen 1
      go_wp2_with fail
      refine bp_gen fun wf hwf => ?_
      obtain ⟨q0, q1, hbf, hof⟩ := wend (ts := 31) (t := 2) (w2 := wd) hwf HR.out (by omega) HR.out.lt HB.out HB.out.size ObjW.empty
      clear hwf k0 k1 k2 k3 k4 k5
      exact bodyPost_ret (v := .tuple #[.agg #[.slice none 0 0, .slice none 0 0], .int .i64 2]) (by simp [results, Try.results49, go_sem, q0, q1]) rfl ⟨_, _, _, _, rfl, hbf, hof⟩
    · have HQ := hide h1
      clear hp hq hz hl h1
      obtain rfl : kz = 0 := by simpa using hk.fl.symm
      obtain rfl : kw = 0 := by simpa using hk.sl.symm
      clear hk
      go_enter Try.func49, Try.ntmps49
      go_wp2_with fail
      refine calls_gen fun w0 hw0 => ?_
      have hb0 : Below w.heap.size w w0 := by rw [hw0]; exact ((Below.refl _ _).alloc (Nat.le_refl _) _).alloc (by simp) _
      have HB := hide hb0
      have HK : Hid (Blk w0 w.heap.size 40 [.slice A n c, .slice B m d]) := hide (by rw [hw0]; exact (Blk.new _ _ _).alloc _)
      have HR : Hid (Blk w0 (w.heap.size + 1) 40 [.slice none 0 0, .slice none 0 0]) := hide (by rw [hw0]; have h := Blk.new (w.alloc (Obj.cells #[Value.slice A n c, Value.slice B m d] 40)) 40 [.slice none 0 0, .slice none 0 0]; simpa using h)
      clear hw0 hb0
      refine (mapS_any _ _ _ f _ _ _ s true _ (HZ.out.later HB.out) (by simp [HP.out])).mono ?_
      rintro _ wd ⟨rfl, hbd⟩
      replace HK := hide (HK.out.later hbd)
      replace HR := hide (HR.out.later hbd)
      have HB' := hide (HB.out.trans (hbd.mono HB.out.size))
      replace HB := HB'
      clear HB' hbd
      have k0 := HK.out.cell 0 _ rfl
      have k1 := HK.out.cell 1 _ rfl
      go_wp2_with fail
      clear k0 k1
      refine (prmS_below _ _ _ p false _ HL.out (by omega) (hpr.later HB.out) (by simp [HQ.out])).mono ?_
      rintro _ wd ⟨rfl, hbd⟩
      replace HK := hide (HK.out.later hbd)
      replace HR := hide (HR.out.later hbd)
      have HB' := hide (HB.out.trans (hbd.mono HB.out.size))
      replace HB := HB'
      clear HB' hbd
      have k0 := HK.out.cell 0 _ rfl
      have k1 := HK.out.cell 1 _ rfl
      have k2 := HR.out.cell 0 _ rfl
      have k3 := HR.out.cell 1 _ rfl
      have k4 := HR.out.frozen 0
      have k5 := HR.out.frozen 1
      go_wp2_with fail
      refine bp_gen fun wf hwf => ?_
      obtain ⟨q0, q1, hbf, hof⟩ := wend (ts := 31) (t := 2) (w2 := wd) hwf HR.out (by omega) HR.out.lt HB.out HB.out.size ObjW.empty
      clear hwf k0 k1 k2 k3 k4 k5
      exact bodyPost_ret (v := .tuple #[.agg #[.slice none 0 0, .slice none 0 0], .int .i64 2]) (by simp [results, Try.results49, go_sem, q0, q1]) rfl ⟨_, _, _, _, rfl, hbf, hof⟩
  · have HP := hide hp
    clear hp hz hl
    obtain rfl : kz = 0 := by simpa using hk.fl.symm
    obtain rfl : kw = 0 := by simpa using hk.sl.symm
    clear hk
    go_enter Try.func49, Try.ntmps49
    go_wp2_with fail
    refine calls_gen fun w0 hw0 => ?_
    have hb0 : Below w.heap.size w w0 := by rw [hw0]; exact ((Below.refl _ _).alloc (Nat.le_refl _) _).alloc (by simp) _
    have HB := hide hb0
    have HK : Hid (Blk w0 w.heap.size 40 [.slice A n c, .slice B m d]) := hide (by rw [hw0]; exact (Blk.new _ _ _).alloc _)
    have HR : Hid (Blk w0 (w.heap.size + 1) 40 [.slice none 0 0, .slice none 0 0]) := hide (by rw [hw0]; have h := Blk.new (w.alloc (Obj.cells #[Value.slice A n c, Value.slice B m d] 40)) 40 [.slice none 0 0, .slice none 0 0]; simpa using h)
    clear hw0 hb0
    refine (mapS_any _ _ _ f _ _ _ s false _ (HZ.out.later HB.out) (by simp [HP.out])).mono ?_
    rintro _ wd ⟨rfl, hbd⟩
    replace HK := hide (HK.out.later hbd)
    replace HR := hide (HR.out.later hbd)
    have HB' := hide (HB.out.trans (hbd.mono HB.out.size))
    replace HB := HB'
    clear HB' hbd
    have k0 := HK.out.cell 0 _ rfl
    have k1 := HK.out.cell 1 _ rfl
    have k2 := HR.out.cell 0 _ rfl
    have k3 := HR.out.cell 1 _ rfl
    have k4 := HR.out.frozen 0
    have k5 := HR.out.frozen 1
    go_wp2_with fail
    refine bp_gen fun wf hwf => ?_
    obtain ⟨q0, q1, hbf, hof⟩ := wend (ts := 31) (t := 2) (w2 := wd) hwf HR.out (by omega) HR.out.lt HB.out HB.out.size ObjW.empty
    clear hwf k0 k1 k2 k3 k4 k5
    exact bodyPost_ret (v := .tuple #[.agg #[.slice none 0 0, .slice none 0 0], .int .i64 1]) (by simp [results, Try.results49, go_sem, q0, q1]) rfl ⟨_, _, _, _, rfl, hbf, hof⟩
end Go.Proofs.Ytchpclgkinehhaa
