import Derived.Test.YtaejgmdeiemhcabZg
import Derived.Test.YtaejgmdeiemhcabZf
import Derived.Test.YtaejgmdeiemhcabZe
import Derived.Test.YtaejgmdeiemhcabZc
import Derived.Test.YtaejgmdeiemhcabZar
import Derived.Test.YtaejgmdeiemhcabProg
namespace Go.Proofs.Ytaejgmdeiemhcab
open Go Go.RowKit
set_option maxHeartbeats 1000000

theorem copyZ (A : Option Addr) (n c : Nat) (f : List (List Int)) (B : Option Addr) (m d : Nat) (s : List (List Int)) (w : World) (hz : ZArg 1048576 w A n f B m s) :
    Calls Try.prog 17 #[.agg #[.slice A n c, .slice B m d]] w fun e w' => ∃ A' c' B' d', e = .returned (.agg #[.slice A' n c', .slice B' m d']) ∧ Below w.heap.size w w' ∧ ObjZ 32 2 w.heap.size w'.heap.size w' A' f B' s := by
  have HZ := hide hz
  clear hz
  go_enter Try.func17, Try.ntmps17
  go_wp2_with fail
  have HB0 := hide (((((Below.refl _ w).alloc (Nat.le_refl _) (Obj.cells #[Value.slice A n c, Value.slice B m d] 30)).alloc (by simp) (Obj.cells #[Value.slice none 0 0, Value.slice none 0 0] 35)).alloc (by simp; omega) (Obj.cells #[Value.slice none 0 0, Value.slice none 0 0] 35)))
  have HK0 := hide (Blk.new ((w.alloc (Obj.cells #[Value.slice A n c, Value.slice B m d] 30)).alloc (Obj.cells #[Value.slice none 0 0, Value.slice none 0 0] 35)) 35 [.slice none 0 0, .slice none 0 0])
  have HL0 := hide (((Blk.new w 30 [.slice A n c, .slice B m d]).alloc (Obj.cells #[Value.slice none 0 0, Value.slice none 0 0] 35)).alloc (Obj.cells #[Value.slice none 0 0, Value.slice none 0 0] 35))
  have HR0 := hide ((Blk.new (w.alloc (Obj.cells #[Value.slice A n c, Value.slice B m d] 30)) 35 [.slice none 0 0, .slice none 0 0]).alloc (Obj.cells #[Value.slice none 0 0, Value.slice none 0 0] 35))
  refine (copyT _ _ _ f _ HZ.out.sz.fl HZ.out.sz.nb HZ.out.sz.nr (HZ.out.fst.later HB0.out)).mono ?_
  rintro e w1 ⟨A1, rfl, hb1, ho1⟩
  have hs1 := hb1.size
  simp at hs1
  have HB1 := hide (HB0.out.trans (hb1.mono (by simp; omega)))
  have HO1 := hide ho1
  have HK1 := hide (HK0.out.later hb1)
  have HL1 := hide (HL0.out.later hb1)
  have HR1 := hide (HR0.out.later hb1)
  clear hb1 ho1 HK0 HL0 HR0
  simp at HK1 HR1
  have k0 := HK1.out.cell 0 _ rfl
  have k1 := HK1.out.frozen 0
  have k2 := HL1.out.cell 1 _ rfl
  go_wp2_with fail
  clear k0 k1 k2
  have HK2 := hide (HK1.out.set 0 (.slice A1 n n))
  have HB2 := hide (HB1.out.setCell (p := ⟨w.heap.size + 1 + 1, 0, none⟩) (by simp; omega) (Value.slice A1 n n))
  refine (copyT _ _ _ s _ HZ.out.sz.sl HZ.out.sz.mb HZ.out.sz.mr (HZ.out.snd.later HB2.out)).mono ?_
  rintro e w2 ⟨A2, rfl, hb2, ho2⟩
  have hs2 := hb2.size
  simp [World.setCell] at hs2
  have HB3 := hide (HB2.out.trans (hb2.mono HB2.out.size))
  have HO3 := hide (((HO1.out.set (p := ⟨w.heap.size + 1 + 1, 0, none⟩) (by simp) (Value.slice A1 n n)).later hb2))
  have HO2 := hide ho2
  have HK3 := hide (HK2.out.later hb2)
  have HR3 := hide ((HR1.out.far (p := ⟨w.heap.size + 1 + 1, 0, none⟩) (by simp) (Value.slice A1 n n)).later hb2)
  clear hb2 ho2 HK1 HK2
  have k0 := HK3.out.cell 0 _ rfl
  have k1 := HK3.out.cell 1 _ rfl
  have k2 := HK3.out.frozen 1
  have k3 := HR3.out.cell 0 _ rfl
  have k4 := HR3.out.cell 1 _ rfl
  have k5 := HR3.out.frozen 0
  have k6 := HR3.out.frozen 1
  go_wp2_with fail
  refine bp_gen fun wf hwf => ?_
  have HRF : Hid (Blk wf (w.heap.size + 1) 35 [.slice A1 n n, .slice A2 m m]) := hide (by rw [hwf]; exact ((HR3.out.far (by simp) _).set 0 _).set 1 _)
  have HBF : Hid (Below w.heap.size w wf) := hide (by rw [hwf]; exact ((HB3.out.setCell (by simp; omega) _).setCell (by simp) _).setCell (by simp) _)
  have HOF : Hid (Obj2 32 2 w.heap.size w1.heap.size wf A1 f) := hide (by rw [hwf]; exact ((((HO3.out.set (by simp) _).set (by simp) _).set (by simp) _).mono (by simp; omega) (Nat.le_refl _)))
  have HPF : Hid (Obj2 32 2 w1.heap.size wf.heap.size wf A2 s) := hide (by rw [hwf]; exact ((((HO2.out.set (by simp [World.setCell]; omega) _).set (by simp [World.setCell]; omega) _).set (by simp [World.setCell]; omega) _).mono (by simp [World.setCell]) (by simp [World.setCell])))
  have q0 := HRF.out.cell 0 _ rfl
  have q1 := HRF.out.cell 1 _ rfl
  have hsf : w1.heap.size ≤ wf.heap.size := by rw [hwf]; simp [World.setCell]; omega
  clear hwf k0 k1 k2 k3 k4 k5 k6
  exact bodyPost_ret (v := .agg #[.slice A1 n n, .slice A2 m m]) (by simp [results, Try.results17, go_sem, q0, q1]) rfl ⟨_, _, _, _, rfl, HBF.out, w1.heap.size, by omega, hsf, HOF.out, HPF.out⟩
end Go.Proofs.Ytaejgmdeiemhcab
namespace Go.Proofs.Ytaejgmdeiemhcab
open Go Go.RowKit
set_option maxHeartbeats 1000000

def SzZ (L : Int) (f : List (List Int)) (n : Nat) (s : List (List Int)) (m : Nat) (r : Int) : Prop := r = -1 ∨ (0 ≤ r ∧ r ≤ L ∧ ZSz 1048576 f n s m)
def SzZPost (L : Int) (f : List (List Int)) (n : Nat) (s : List (List Int)) (m : Nat) (w : World) (e : Ending) (w' : World) : Prop := ∃ r, SzZ L f n s m r ∧ e = .returned (.int .i64 r) ∧ Below w.heap.size w w'

theorem szZ_any (A : Option Addr) (n c : Nat) (f : List (List Int)) (B : Option Addr) (m d : Nat) (s : List (List Int)) (L : Int) (w : World) (hz : ZArg 9223372036854775807 w A n f B m s) (h0 : 0 ≤ L) (h1 : L ≤ 1048576) :
    Calls Try.prog 15 #[.agg #[.slice A n c, .slice B m d], .int .i64 L] w (SzZPost L f n s m w) := by
  have HZ := hide hz
  clear hz
  go_enter Try.func15, Try.ntmps15
  go_wp2_with fail
  have HB0 := hide ((Below.refl _ w).alloc (Nat.le_refl _) (Obj.cells #[Value.slice A n c, Value.slice B m d] 30))
  have HK0 := hide (Blk.new w 30 [.slice A n c, .slice B m d])
  refine (szz_any _ _ _ f L _ HZ.out.sz.fl HZ.out.sz.nb HZ.out.sz.nr h0 h1 (HZ.out.fst.later HB0.out)).mono ?_
  rintro e w1 ⟨l, hsz, rfl, rfl⟩
  have k1 := HK0.out.cell 1 _ rfl
  rcases hsz with rfl | ⟨p, q, u, y⟩
  · go_wp2_with fail
    go_ret
    exact ⟨-1, .inl rfl, rfl, HB0.out⟩
  · have U := hide u
    have Y := hide y
    clear u y
    go_wp2_with fail
    refine (szz_any _ _ _ s l _ HZ.out.sz.sl HZ.out.sz.mb HZ.out.sz.mr p (by omega) (HZ.out.snd.later HB0.out)).mono ?_
    rintro e w1 ⟨l2, hsz, rfl, rfl⟩
    rcases hsz with rfl | ⟨p2, q2, u2, y2⟩
    · go_wp2_with fail
      go_ret
      exact ⟨-1, .inl rfl, rfl, HB0.out⟩
    · have U2 := hide u2
      have Y2 := hide y2
      clear u2 y2
      go_wp2_with fail
      go_ret
      refine ⟨l2, .inr ⟨p2, by omega, ⟨HZ.out.sz.fl, ?_, fun i hi => ?_, HZ.out.sz.sl, ?_, fun i hi => ?_⟩⟩, rfl, HB0.out⟩
      · have := U.out; have := HZ.out.sz.fl; omega
      · have := Y.out i hi; omega
      · have := U2.out; have := HZ.out.sz.sl; omega
      · have := Y2.out i hi; omega
end Go.Proofs.Ytaejgmdeiemhcab
namespace Go.Proofs.Ytaejgmdeiemhcab
open Go Go.RowKit
set_option maxHeartbeats 1000000

theorem eqZ_any (A : Option Addr) (n c : Nat) (f : List (List Int)) (B : Option Addr) (m d : Nat) (s : List (List Int)) (A2 : Option Addr) (n2 c2 : Nat) (f2 : List (List Int)) (B2 : Option Addr) (m2 d2 : Nat) (s2 : List (List Int)) (r : Bool) (w : World)
    (hz : ZArg 1048576 w A n f B m s) (hz2 : ZArg 1048576 w A2 n2 f2 B2 m2 s2) (hr : r = true ↔ f = f2 ∧ s = s2) :
    Calls Try.prog 20 #[.agg #[.slice A n c, .slice B m d], .agg #[.slice A2 n2 c2, .slice B2 m2 d2]] w fun e w' => e = .returned (.bool r) ∧ Below w.heap.size w w' := by
  have HZ := hide hz
  have HZ2 := hide hz2
  have HR := hide hr
  clear hz hz2 hr
  have HB0 := hide (((Below.refl _ w).alloc (Nat.le_refl _) (Obj.cells #[Value.slice A n c, Value.slice B m d] 35)).alloc (by simp) (Obj.cells #[Value.slice A2 n2 c2, Value.slice B2 m2 d2] 35))
  have HK0 := hide ((Blk.new w 35 [.slice A n c, .slice B m d]).alloc (Obj.cells #[Value.slice A2 n2 c2, Value.slice B2 m2 d2] 35))
  have HL0 := hide (Blk.new (w.alloc (Obj.cells #[Value.slice A n c, Value.slice B m d] 35)) 35 [.slice A2 n2 c2, .slice B2 m2 d2])
  simp at HL0
  by_cases h1 : f = f2
  · have H1 := hide h1
    clear h1
    by_cases h2 : s = s2
    · have H2 := hide h2
      have hrt : r = true := HR.out.2 ⟨H1.out, h2⟩
      subst hrt
      clear h2
      go_enter Try.func20, Try.ntmps20
      go_wp2_with fail
      refine (eqq_any _ _ _ _ _ _ f f2 true _ HZ.out.sz.fl HZ2.out.sz.fl (by have := HZ.out.sz.nb; omega) (by have := HZ2.out.sz.nb; omega) (fun i hi => by have := HZ.out.sz.nr i hi; omega) (fun i hi => by have := HZ2.out.sz.nr i hi; omega) (HZ.out.fst.later HB0.out) (HZ2.out.fst.later HB0.out) (by simp [H1.out])).mono ?_
      rintro e w1 ⟨rfl, hq1⟩
      have HB1 := hide (HB0.out.trans (hq1.below _))
      have k1 := (HK0.out.later (hq1.below _)).cell 1 _ rfl
      have k2 := (HL0.out.later (hq1.below _)).cell 1 _ rfl
      clear hq1
      go_wp2_with fail
      refine (eqq_any _ _ _ _ _ _ s s2 true _ HZ.out.sz.sl HZ2.out.sz.sl (by have := HZ.out.sz.mb; omega) (by have := HZ2.out.sz.mb; omega) (fun i hi => by have := HZ.out.sz.mr i hi; omega) (fun i hi => by have := HZ2.out.sz.mr i hi; omega) (HZ.out.snd.later HB1.out) (HZ2.out.snd.later HB1.out) (by simp [H2.out])).mono ?_
      rintro e w2 ⟨rfl, hq2⟩
      have HB2 := hide (HB1.out.trans (hq2.below _))
      clear hq2
      go_wp2_with fail
      go_ret
      exact ⟨rfl, HB2.out⟩
    · have H2 := hide h2
      have hrt : r = false := by
        cases r
        · rfl
        · exact absurd (HR.out.1 rfl).2 h2
      subst hrt
      clear h2
      go_enter Try.func20, Try.ntmps20
      go_wp2_with fail
      refine (eqq_any _ _ _ _ _ _ f f2 true _ HZ.out.sz.fl HZ2.out.sz.fl (by have := HZ.out.sz.nb; omega) (by have := HZ2.out.sz.nb; omega) (fun i hi => by have := HZ.out.sz.nr i hi; omega) (fun i hi => by have := HZ2.out.sz.nr i hi; omega) (HZ.out.fst.later HB0.out) (HZ2.out.fst.later HB0.out) (by simp [H1.out])).mono ?_
      rintro e w1 ⟨rfl, hq1⟩
      have HB1 := hide (HB0.out.trans (hq1.below _))
      have k1 := (HK0.out.later (hq1.below _)).cell 1 _ rfl
      have k2 := (HL0.out.later (hq1.below _)).cell 1 _ rfl
      clear hq1
      go_wp2_with fail
      refine (eqq_any _ _ _ _ _ _ s s2 false _ HZ.out.sz.sl HZ2.out.sz.sl (by have := HZ.out.sz.mb; omega) (by have := HZ2.out.sz.mb; omega) (fun i hi => by have := HZ.out.sz.mr i hi; omega) (fun i hi => by have := HZ2.out.sz.mr i hi; omega) (HZ.out.snd.later HB1.out) (HZ2.out.snd.later HB1.out) (by simp [H2.out])).mono ?_
      rintro e w2 ⟨rfl, hq2⟩
      have HB2 := hide (HB1.out.trans (hq2.below _))
      clear hq2
      go_wp2_with fail
      go_ret
      exact ⟨rfl, HB2.out⟩
  · have H1 := hide h1
    have hrt : r = false := by
      cases r
      · rfl
      · exact absurd (HR.out.1 rfl).1 h1
    subst hrt
    clear h1
    go_enter Try.func20, Try.ntmps20
    go_wp2_with fail
    refine (eqq_any _ _ _ _ _ _ f f2 false _ HZ.out.sz.fl HZ2.out.sz.fl (by have := HZ.out.sz.nb; omega) (by have := HZ2.out.sz.nb; omega) (fun i hi => by have := HZ.out.sz.nr i hi; omega) (fun i hi => by have := HZ2.out.sz.nr i hi; omega) (HZ.out.fst.later HB0.out) (HZ2.out.fst.later HB0.out) (by simp [H1.out])).mono ?_
    rintro e w1 ⟨rfl, hq1⟩
    have HB1 := hide (HB0.out.trans (hq1.below _))
    clear hq1
    go_wp2_with fail
    go_ret
    exact ⟨rfl, HB1.out⟩
end Go.Proofs.Ytaejgmdeiemhcab
namespace Go.Proofs.Ytaejgmdeiemhcab
open Go Go.RowKit
set_option maxHeartbeats 1000000

theorem markZ (ts t : TypeId) (hne : ts ≠ t) (lo hi : Nat) (A : Option Addr) (n c : Nat) (B : Option Addr) (m d : Nat) (k : Int) (f s : List (List Int)) (w : World) (sz : ZSz 1048576 f n s m) (ht : tot f + tot s ≤ 2305843009213693952) (hk : 0 ≤ k) (hk2 : k ≤ 1152921504606846976) (hr : ObjZ ts t lo hi w A f B s) (hhi : hi ≤ w.heap.size) :
    Calls Try.prog 21 #[.agg #[.slice A n c, .slice B m d], .int .i64 k] w fun e w' => e = .returned (.int .i64 (k + (tot f : Int) + (tot s : Int))) ∧ Touch lo hi w w' ∧ ObjZ ts t lo hi w' A (marks2 k f) B (marks2 (k + (tot f : Int)) s) := by
  obtain ⟨mid, h1, h2, h3, h4⟩ := hr
  have HNE := hide hne
  have SZ := hide sz
  have H3 := hide h3
  have H4 := hide h4
  have HT := hide ht
  have HTF := hide sz.totf
  clear hne sz h3 h4 ht
  have htf := HTF.out
  obtain ⟨F, hF⟩ : ∃ F, tot f = F := ⟨_, rfl⟩
  obtain ⟨S, hS⟩ : ∃ S, tot s = S := ⟨_, rfl⟩
  rw [hF, hS]
  rw [hF] at htf
  have HF := hide hF
  have HS := hide hS
  have hk0 : Below w.heap.size w (w.alloc (Obj.cells #[Value.slice A n c, Value.slice B m d] 35)) := (Below.refl _ w).alloc (Nat.le_refl _) _
  have HB0 := hide hk0
  have HK0 := hide (Blk.new w 35 [.slice A n c, .slice B m d])
  clear hF hS hk0
  go_enter Try.func21, Try.ntmps21
  go_wp2_with fail
  refine (markT ts t HNE.out lo mid _ _ _ _ f _ SZ.out.fl SZ.out.nb SZ.out.nr (by have := HT.out; omega) hk (by omega) (H3.out.later HB0.out)).mono ?_
  rintro e w1 ⟨rfl, ht1, ho1⟩
  have HT1 := hide ((Touch.of_below HB0.out).trans (ht1.wide (Nat.le_refl _) h2))
  have HO1 := hide ho1
  have HP1 := hide (((H4.out.later HB0.out).far ht1 (.inr (Nat.le_refl _))))
  have HK1 := hide (HK0.out.touch ht1 (.inr (by omega)))
  have k1 := HK1.out.cell 1 _ rfl
  clear ht1 ho1
  rw [HF.out]
  go_wp2_with fail
  refine (markT ts t HNE.out mid hi _ _ _ _ s _ SZ.out.sl SZ.out.mb SZ.out.mr (by have := HT.out; omega) (by omega) (by omega) HP1.out).mono ?_
  rintro e w2 ⟨rfl, ht2, ho2⟩
  have HT2 := hide (HT1.out.trans (ht2.wide h1 (Nat.le_refl _)))
  have HO2 := hide (HO1.out.far ht2 (.inl (Nat.le_refl _)))
  have HP2 := hide ho2
  clear ht2 ho2
  rw [HS.out]
  go_wp2_with fail
  go_ret
  exact ⟨rfl, HT2.out, mid, h1, h2, HO2.out, HP2.out⟩

end Go.Proofs.Ytaejgmdeiemhcab
namespace Go.Proofs.Ytaejgmdeiemhcab
open Go Go.RowKit
section
variable {ts t : TypeId} {B : Nat} {w w' : World} {v : Value} {rows : List (List Int)} {vals : List Value}
theorem KeepT.rd {A : Option Addr} {lo hi : Nat} {xs : List Int} (h : KeepT t w w') (o : Obj1 t lo hi w A xs) : Rd w' A xs := (h.obj o).rd
/-- The rows of a list in own memory, all as cells. -/
theorem Obj2.look {lo hi : Nat} {A : Option Addr} (h : Obj2 ts t lo hi w A rows) (h0 : 0 < rows.length) : ∃ (g : Nat) (vs : List Value), A = some ⟨g, 0, none⟩ ∧ g < w.heap.size ∧ vs.length = rows.length ∧ (∀ i u, vs[i]? = some u → w.cell? ⟨g, i, none⟩ = some u) ∧ (∀ u ∈ vs, u.oneCell' = true) ∧ ∀ i, i < rows.length → ∃ A c, vs[i]? = some (.slice A (rows.getD i []).length c) ∧ Obj1 t lo hi w A (rows.getD i []) := by
  rcases h with ⟨_, rfl⟩ | ⟨g, R, C, rfl, h1, h2, ⟨cur, h3, h4⟩, h5, _⟩
  · simp at h0
  · refine ⟨g, (List.range rows.length).map (fun i => .slice (R i) (rows.getD i []).length (C i)), rfl, (Array.getElem?_eq_some_iff.1 h3).1, by simp, fun i u hu => ?_, fun u hu => ?_, fun i hi => ⟨R i, C i, by simp [hi], h5 i hi⟩⟩
    · have hi : i < rows.length := by
        have := (List.getElem?_eq_some_iff.1 hu).1
        simpa using this
      have e : u = .slice (R i) (rows.getD i []).length (C i) := by
        simp [hi] at hu
        simp [← hu, hi]
      rw [e, cell_of_row w g i cur ts (0, 0) h3]
      exact h4 i hi
    · obtain ⟨i, _, rfl⟩ := List.mem_map.1 hu
      rfl
/-- What an append of all rows of another list leaves to read. -/
theorem LstV.cat {w1 : World} {v' : Value} {rows2 : List (List Int)} {vals2 : List Value} {lo hi n : Nat} {tmp : Obj} (hne : ts ≠ t) (h : LstV ts t B w v rows vals) (_hlen : vals2.length = rows2.length)
    (h2 : ∀ i, i < rows2.length → ∃ A c, vals2[i]? = some (.slice A (rows2.getD i []).length c) ∧ Obj1 t lo hi w A (rows2.getD i []))
    (hn : n = (rows ++ rows2).length) (h0 : 0 < n) (hown : w1.ownsRow B ts 1 v' n (vals ++ vals2)) (hg : w.grownBy w1 v.ownBlock ∨ (w.alloc tmp).grownBy w1 v.ownBlock) :
    ∃ A c, v' = .slice A n c ∧ Rd2 w1 A (rows ++ rows2) := by
  have hl := ownsRow_len h.own
  have hk : KeepT t w w1 := by
    rcases hg with hg | hg
    · exact KeepT.of_grown hne h.own hg
    · have hal : Below w.heap.size w (w.alloc tmp) := (Below.refl _ _).alloc (Nat.le_refl _) _
      exact (KeepT.of_below hal).trans (KeepT.of_grown hne (ownsRow_below h.own hal) hg)
  subst hn
  rcases hown.2 with ⟨hv, hz⟩ | ⟨g, cap, cur, hv, hgB, hh, h1, h3, h4, h5⟩
  · omega
  · refine ⟨_, _, hv, fun _ => ⟨g, 0, rfl, (Array.getElem?_eq_some_iff.1 hh).1, fun i hi => ?_⟩⟩
    have key : ∃ A c, (vals ++ vals2)[i]? = some (.slice A ((rows ++ rows2).getD i []).length c) ∧ Rd w1 A ((rows ++ rows2).getD i []) := by
      by_cases e : i < rows.length
      · obtain ⟨A, c, e1, e2⟩ := h.row i e
        have e3 : (rows ++ rows2).getD i [] = rows.getD i [] := by simp [List.getElem?_append_left e]
        rw [e3]
        exact ⟨A, c, by rw [List.getElem?_append_left (by omega)]; exact e1, hk.rd e2⟩
      · have hi2 : i - rows.length < rows2.length := by simp at hi; omega
        obtain ⟨A, c, e1, e2⟩ := h2 (i - rows.length) hi2
        have e3 : (rows ++ rows2).getD i [] = rows2.getD (i - rows.length) [] := by simp [List.getElem?_append_right (by omega : rows.length ≤ i)]
        rw [e3]
        exact ⟨A, c, by rw [List.getElem?_append_right (by omega), hl]; exact e1, hk.rd e2⟩
    obtain ⟨A, c, e1, e2⟩ := key
    refine ⟨A, c, ?_, e2⟩
    rw [Nat.zero_add, cell_of_row w1 g i cur ts (0, 0) hh]
    have h6 := e1
    rw [← h5, List.getElem?_take, if_pos (by omega)] at h6
    simpa using h6
end
end Go.Proofs.Ytaejgmdeiemhcab
namespace Go.Proofs.Ytaejgmdeiemhcab
open Go Go.RowKit
set_option maxHeartbeats 1000000

/-- Between the rounds: what has been written after x rows and y values of the next one. -/
def turnTo (rows : List (List Int)) (x y : Nat) : Nat → Nat → Int := fun a b => if b < x ∨ (b = x ∧ a < y) then (rows.getD b []).getD a 0 else 0

theorem turnTo_set (rows : List (List Int)) (x y : Nat) (v : Int) (hv : (rows.getD x []).getD y 0 = v) : ∀ a b, (if a = y ∧ b = x then v else turnTo rows x y a b) = turnTo rows x (y + 1) a b := by
  intro a b
  unfold turnTo
  by_cases h : a = y ∧ b = x
  · obtain ⟨rfl, rfl⟩ := h
    rw [if_pos ⟨rfl, rfl⟩, if_pos (.inr ⟨rfl, by omega⟩), hv]
  · rw [if_neg h]
    by_cases h2 : b < x ∨ (b = x ∧ a < y)
    · rw [if_pos h2, if_pos (by omega)]
    · rw [if_neg h2, if_neg (by omega)]

theorem turnTo_next (rows : List (List Int)) (x n : Nat) : ∀ a b, a < n → turnTo rows x n a b = turnTo rows (x + 1) 0 a b := by
  intro a b ha
  unfold turnTo
  by_cases h2 : b < x ∨ (b = x ∧ a < n)
  · rw [if_pos h2, if_pos (by omega)]
  · rw [if_neg h2, if_neg (by omega)]

theorem turnI_any (A : Option Addr) (n c : Nat) (rows : List (List Int)) (w : World) (hn : rows.length = n) (hb : n ≤ 1048576) (hbs : ∀ i, i < rows.length → (rows.getD i []).length = n) (hr : Rd2 w A rows) :
    Calls Try.prog 124 #[.slice A n c] w fun e w' => ∃ A' c', e = .returned (.slice A' n c') ∧ Below w.heap.size w w' ∧ Obj2 32 2 w.heap.size w'.heap.size w' A' (turnL rows) := by
  have HN := hide hn
  clear hn
  go_enter Try.func124, Try.ntmps124
  go_wp2_with fail
  refine (newTable_any n _ hb).mono ?_
  rintro e w1 ⟨rfl, hb1, htab, hsz⟩
  have HB1 := hide hb1
  have HT := hide htab
  have HS := hide hsz
  clear hb1 htab hsz
  go_wp2_with fail
  go_loopw [13] (fun i wr => ∃ x : Nat, x ≤ n ∧ i = .int .i64 x ∧ Below w.heap.size w wr ∧ TabF 32 2 wr w.heap.size (fun i => w.heap.size + 1 + i) n (turnTo rows x 0) ∧ wr.heap.size = w.heap.size + 1 + n) (fun i _ => n - (intOf i).toNat)
  case atStart => exact ⟨0, Nat.zero_le _, rfl, HB1.out, HT.out.congr (fun a b _ _ => by simp [turnTo]), HS.out⟩
  case round =>
    obtain ⟨x, hx, rfl, hbe, htab, hsz⟩ := hrel
    have HB := hide hbe
    have HT2 := hide htab
    have HS2 := hide hsz
    clear hbe htab hsz
    by_cases hlt : x < n
    · obtain ⟨b, o, rfl, hbw, hc⟩ := hr (by have := HN.out; omega)
      obtain ⟨Ax, cx, hcell, hrd⟩ := hc x (by have := HN.out; omega)
      have hl := hbs x (by have := HN.out; omega)
      obtain ⟨r, hx'⟩ : ∃ r, r = rows.getD x [] := ⟨_, rfl⟩
      rw [← hx'] at hcell hrd hl
      rw [hl] at hcell
      have HX := hide hx'
      have HL := hide hl
      have hcell' : wr.cell? ⟨b, o + x, none⟩ = some (.slice Ax n cx) := (HB.out.cell (p := ⟨b, o + x, none⟩) hbw).trans hcell
      have hrd' : Rd w Ax r := hrd
      clear hx' hc hl hcell hrd hbs
      have hltz : (x : Int) < n := by omega
      go_wp2_with fail
      obtain ⟨wo, rfl⟩ : ∃ wo : World, wo = wr := ⟨_, rfl⟩
      go_loopw [20] (fun i wi => ∃ y : Nat, y ≤ n ∧ i = .int .i64 y ∧ Below w.heap.size w wi ∧ TabF 32 2 wi w.heap.size (fun i => w.heap.size + 1 + i) n (turnTo rows x y) ∧ wi.heap.size = w.heap.size + 1 + n) (fun i _ => n - (intOf i).toNat)
      case atStart => exact ⟨0, Nat.zero_le _, rfl, HB.out, HT2.out, HS2.out⟩
      case round =>
        obtain ⟨y, hy, rfl, hbi, hti, hsi⟩ := hrel
        have HBI := hide hbi
        have HTI := hide hti
        have HSI := hide hsi
        clear hbi hti hsi
        by_cases hlty : y < n
        · obtain ⟨b2, o2, rfl, hbw2, hc2⟩ := hrd' (by have := HL.out; omega)
          have hv : wr.cell? ⟨b2, o2 + y, none⟩ = some (.int .i64 (r.getD y 0)) := (HBI.out.cell (p := ⟨b2, o2 + y, none⟩) hbw2).trans (hc2 y (by have := HL.out; omega))
          obtain ⟨z, hz⟩ : ∃ z, r.getD y 0 = z := ⟨_, rfl⟩
          rw [hz] at hv
          have HZ := hide hz
          obtain ⟨C, htop⟩ := HTI.out.top
          have ho : wr.cell? ⟨w.heap.size, y, none⟩ = some (.slice (some ⟨w.heap.size + 1 + y, 0, none⟩) n (C y)) := htop.cell hlty
          clear htop
          have hi1 : wr.cell? ⟨w.heap.size + 1 + y, x, none⟩ = some (.int .i64 (turnTo rows x y y x)) := (HTI.out.row y hlty).cell hlt
          obtain ⟨old, hold⟩ : ∃ q, turnTo rows x y y x = q := ⟨_, rfl⟩
          rw [hold] at hi1
          have hi2 : wr.frozen? ⟨w.heap.size + 1 + y, x, none⟩ = false := (HTI.out.row y hlty).frozen x
          clear hz hold hc2 hrd' hcell'
          have hltyz : (y : Int) < n := by omega
          go_wp2_with fail
          go_roundw
          case rel =>
            refine ⟨y + 1, by omega, by go_num, HBI.out.setCell (p := ⟨w.heap.size + 1 + y, x, none⟩) (by show w.heap.size ≤ w.heap.size + 1 + y; omega) _, ?_, by have := HSI.out; simpa [World.setCell] using this⟩
            refine (HTI.out.set y x z hlty).congr (fun a b _ _ => turnTo_set rows x y z ?_ a b)
            rw [← HX.out]
            exact HZ.out
          case measure => simp [intOf]; omega
        · have hyn : y = n := by omega
          subst hyn
          go_wp2_with fail
          go_roundw
          case rel => exact ⟨x + 1, by omega, by go_num, HBI.out, HTI.out.congr (fun a b ha _ => turnTo_next rows x y a b ha), HSI.out⟩
          case measure => simp [intOf]; omega
    · have hxn : x = n := by omega
      subst hxn
      go_wp2_with fail
      go_ret
      refine ⟨_, _, rfl, HB.out, ?_⟩
      have h := HT2.out.congr (f' := fun a b => (rows.getD b []).getD a 0) (fun a b _ hb => by simp [turnTo, hb])
      have e := HN.out
      unfold turnL
      rw [e]
      exact h.obj (Nat.le_refl _) (by have := HS2.out; omega) (fun i hi => by have := HS2.out; omega)
end Go.Proofs.Ytaejgmdeiemhcab
namespace Go.Proofs.Ytaejgmdeiemhcab
open Go Go.RowKit
set_option maxHeartbeats 1000000

theorem size_any (A : Option Addr) (n c : Nat) (B : Option Addr) (m d : Nat) (w : World) (_hn : n ≤ 1048576) :
    Calls Try.prog 49 #[.agg #[.slice A n c, .slice B m d]] w fun e w' => e = .returned (.int .i64 n) ∧ Below w.heap.size w w' := by
  have HB0 := hide ((Below.refl _ w).alloc (Nat.le_refl _) (Obj.cells #[Value.slice A n c, Value.slice B m d] 35))
  go_enter Try.func49, Try.ntmps49
  go_wp2_with fail
  go_ret
  exact ⟨rfl, HB0.out⟩
end Go.Proofs.Ytaejgmdeiemhcab
namespace Go.Proofs.Ytaejgmdeiemhcab
open Go Go.RowKit
set_option maxHeartbeats 1000000

def colL (rows : List (List Int)) (j : Nat) : List Int := (List.range rows.length).map fun (x : Nat) => (rows.getD x []).getD j 0
theorem colL_length (rows : List (List Int)) (j : Nat) : (colL rows j).length = rows.length := by simp [colL]
theorem colL_getD (rows : List (List Int)) (j k : Nat) (h : k < rows.length) : (colL rows j).getD k 0 = (rows.getD k []).getD j 0 := by simp [colL, h]
theorem turnL_row (rows : List (List Int)) (j : Nat) (h : j < rows.length) : (turnL rows).getD j [] = colL rows j := by
  unfold turnL
  rw [grid_row _ _ _ h]
  rfl

theorem ints_take_succ (zs : List Int) (k : Nat) (y : Int) (h : k < zs.length) (hy : zs.getD k 0 = y) : ints (zs.take k) ++ [.int .i64 y] = ints (zs.take (k + 1)) := by
  rw [List.take_succ_eq_append_getElem h]
  have : zs[k] = y := by simpa [h] using hy
  simp [ints, this]

theorem colInfo : (Try.prog.info? 2).map (fun i => (i.zero, i.size, i.bytes)) = some (some (.int .i64 0), 1, 8) := by kernel_rfl
theorem colsInfo2 : (Try.prog.info? 32).map (fun i => (i.zero, i.size, i.bytes)) = some (some (.slice none 0 0), 1, 24) := by kernel_rfl

theorem row_empty (w : World) (t : TypeId) : (w.alloc (.cells #[] t)).ownsRow w.heap.size t 1 (.slice (some ⟨w.heap.size, 0, none⟩) 0 0) 0 [] :=
  ⟨by simp, .inr ⟨w.heap.size, 0, #[], rfl, Nat.le_refl _, heap_alloc_new _ _, Nat.le_refl _, by unfold maxLen; omega, by simp, by simp⟩⟩

theorem one_new {w : World} {v : Value} {t : TypeId} : ∀ j u, [v][j]? = some u → (w.alloc (.cells #[v] t)).cell? ((⟨w.heap.size, 0, none⟩ : Addr).add j) = some u := by
  intro j u hj
  match j, hj with
  | 0, hj => simp at hj; subst hj; simp [Addr.add, World.cell?_alloc_new]

theorem l01Column_any (A : Option Addr) (n c m j : Nat) (rows : List (List Int)) (w : World) (hn : rows.length = n) (hb : n ≤ 1048576) (hm : m ≤ 1048576) (hbs : ∀ i, i < rows.length → (rows.getD i []).length = m) (hj : j < m) (hr : Rd2 w A rows) :
    Calls Try.prog 140 #[.slice A n c, .int .i64 j] w fun e w' => ∃ A' c', e = .returned (.slice A' n c') ∧ Below w.heap.size w w' ∧ Res 2 w.heap.size w' A' (colL rows j) := by
  have HN := hide hn
  have HZ : Hid ((colL rows j).length = n) := hide ((colL_length rows j).trans hn)
  clear hn
  obtain ⟨i0, hi, hz0, hz1, hz2⟩ := info_parts colInfo
  go_enter Try.func140, Try.ntmps140
  go_wp2_with fail
  go_loopw [5, 6] (fun v i wr => ∃ k : Nat, k ≤ n ∧ i = .int .i64 k ∧ Below w.heap.size w wr ∧ wr.ownsRow w.heap.size 2 1 v k (ints ((colL rows j).take k)) ∧ w.heap.size ≤ wr.heap.size) (fun _ i _ => n - (intOf i).toNat)
  case atStart => exact ⟨0, Nat.zero_le _, rfl, (Below.refl _ _).alloc (Nat.le_refl _) _, by simpa [ints] using row_empty w _, by simp⟩
  case round =>
    obtain ⟨k, hk, rfl, hbe, hown, hsz⟩ := hrel
    have HB := hide hbe
    have HO := hide hown
    clear hbe hown
    by_cases hlt : k < n
    · obtain ⟨b, o, rfl, hbw, hc⟩ := hr (by have := HN.out; omega)
      obtain ⟨Ak, ck, hcell, hrd⟩ := hc k (by have := HN.out; omega)
      have hl := hbs k (by have := HN.out; omega)
      obtain ⟨r, hx'⟩ : ∃ r, r = rows.getD k [] := ⟨_, rfl⟩
      rw [← hx'] at hcell hrd hl
      rw [hl] at hcell
      have HX := hide hx'
      have HL := hide hl
      have hcell' : wr.cell? ⟨b, o + k, none⟩ = some (.slice Ak m ck) := (HB.out.cell (p := ⟨b, o + k, none⟩) hbw).trans hcell
      obtain ⟨b2, o2, rfl, hbw2, hc2⟩ := hrd (by omega)
      have hc3 : wr.cell? ⟨b2, o2 + j, none⟩ = some (.int .i64 (r.getD j 0)) := (HB.out.cell (p := ⟨b2, o2 + j, none⟩) hbw2).trans (hc2 j (by omega))
      obtain ⟨y, hy'⟩ : ∃ y, r.getD j 0 = y := ⟨_, rfl⟩
      rw [hy'] at hc3
      have HY : Hid ((colL rows j).getD k 0 = y) := hide (by rw [colL_getD rows j k (by have := HN.out; omega), ← HX.out]; exact hy')
      clear hx' hc hc2 hy' hcell hrd hl hbs hr
      have hltz : (k : Int) < n := by omega
      have hjz : (j : Int) < m := by omega
      go_wp2_with (at_builtin; refine wpList_append_own _ rfl _ _ 32 rfl w.heap.size 2 i0 (.int .i64 0) 1 8 Try.underlying32 hi hz0 hz1 hz2 rfl (by decide) _ _ _ rfl (HO.out.alloc _) ⟨wr.heap.size, 0, none⟩ 1 1 [.int .i64 y] rfl rfl ?c1 ?c2 ?c3 ?c4 ?c5 ?_)
      case c1 => exact one_new
      case c2 => intro u hu; simp at hu; subst hu; rfl
      case c3 => unfold maxLen; omega
      case c4 => omega
      case c5 => simp; omega
      intro v' w1 hown' hgrow _
      have HO' := hide hown'
      have HG := hide hgrow
      clear hown' hgrow
      go_wp2_with fail
      go_roundw
      case rel =>
        have hB1 : Below w.heap.size w w1 := (HB.out.alloc hsz _).grown HG.out (by simp; omega) (fun g hg => (HO.out.alloc (.cells #[.int .i64 y] 2)).lt g hg |>.1)
        refine ⟨k + 1, by omega, by go_num, hB1, ?_, by have := hB1.size; omega⟩
        have h := HO'.out
        rw [ints_take_succ _ k y (by have := HZ.out; omega) HY.out] at h
        exact h
      case measure => simp [intOf]; omega
    · have hkn : k = n := by omega
      subst hkn
      go_wp2_with fail
      have h := HO.out
      rw [List.take_of_length_le (by have := HZ.out; omega)] at h
      go_ret
      obtain ⟨A', c', hv, hres⟩ := own_shape h
      exact ⟨A', c', by rw [← hv]; rfl, HB.out, hres⟩

theorem l01Turn_any (A : Option Addr) (n c : Nat) (rows : List (List Int)) (w : World) (hn : rows.length = n) (hb : n ≤ 1048576) (hbs : ∀ i, i < rows.length → (rows.getD i []).length = n) (hr : Rd2 w A rows) :
    Calls Try.prog 118 #[.slice A n c] w fun e w' => ∃ A' c', e = .returned (.slice A' n c') ∧ Below w.heap.size w w' ∧ Obj2 32 2 w.heap.size w'.heap.size w' A' (turnL rows) := by
  have HN := hide hn
  have HZ : Hid ((turnL rows).length = n) := hide ((turnL_length rows).trans hn)
  clear hn
  obtain ⟨i0, hi, hz0, hz1, hz2⟩ := info_parts colsInfo2
  go_enter Try.func118, Try.ntmps118
  go_wp2_with fail
  go_loopw [3, 4] (fun v i wr => ∃ (k : Nat) (vals : List Value), k ≤ n ∧ i = .int .i64 k ∧ Below w.heap.size w wr ∧ LstV 32 2 w.heap.size wr v ((turnL rows).take k) vals ∧ w.heap.size ≤ wr.heap.size) (fun _ i _ => n - (intOf i).toNat)
  case atStart => exact ⟨0, [], Nat.zero_le _, rfl, (Below.refl _ _).alloc (Nat.le_refl _) _, by simpa using LstV.start w _ _, by simp⟩
  case round =>
    obtain ⟨k, vals, hk, rfl, hbe, hlst, hsz⟩ := hrel
    have HB := hide hbe
    have HL := hide hlst
    clear hbe hlst
    by_cases hlt : k < n
    · have hltz : (k : Int) < n := by omega
      go_wp2_with fail
      refine (l01Column_any _ _ _ n k rows _ HN.out hb hb hbs hlt (hr.later HB.out)).mono ?_
      rintro e w2 ⟨A2, c2, rfl, hb2, hres⟩
      have HB2 := hide hb2
      have HR2 := hide hres.obj
      clear hb2 hres
      have HL2 := hide (HL.out.later HB2.out)
      have hlen : ((turnL rows).take k).length = k := by have := HZ.out; simp; omega
      have hown : w2.ownsRow w.heap.size 32 1 u3 k vals := by have := HL2.out.own; rwa [hlen] at this
      have HO := hide hown
      have hs2 : w.heap.size ≤ w2.heap.size := by have := HB2.out.size; omega
      clear hown hlen
      go_wp2_with (at_builtin; refine wpList_append_own _ rfl _ _ 22 rfl w.heap.size 32 i0 (.slice none 0 0) 1 24 Try.underlying22 hi hz0 hz1 hz2 rfl (by decide) _ _ _ rfl (HO.out.alloc _) ⟨w2.heap.size, 0, none⟩ 1 1 [.slice A2 n c2] rfl rfl ?c1 ?c2 ?c3 ?c4 ?c5 ?_)
      case c1 => exact one_new
      case c2 => intro u hu; simp at hu; subst hu; rfl
      case c3 => unfold maxLen; omega
      case c4 => omega
      case c5 => simp; omega
      intro v' w3 hown' hgrow _
      have HO' := hide hown'
      have HG := hide hgrow
      clear hown' hgrow
      go_wp2_with fail
      go_roundw
      case rel =>
        have hB3 : Below w.heap.size w w3 := ((HB.out.trans (HB2.out.mono hsz)).alloc hs2 _).grown HG.out (by simp; omega) (fun g hg => (HO.out.alloc (.cells #[.slice A2 n c2] 32)).lt g hg |>.1)
        have hN := HN.out
        have hlen : ((turnL rows).take k).length = k := by have := HZ.out; simp; omega
        have hrow : (turnL rows).getD k [] = colL rows k := turnL_row rows k (by omega)
        have hcl : (colL rows k).length = n := by rw [colL_length]; exact hN
        have hpush := LstV.push (tmp := .cells #[.slice A2 n c2] 32) (A := A2) (c := c2) (r := colL rows k) (w1 := w3) (v' := v') (by decide) hsz HL.out HB2.out HR2.out (by rw [hlen, hcl]; exact HO'.out) HG.out
        refine ⟨k + 1, vals ++ [.slice A2 (colL rows k).length c2], by omega, by go_num, hB3, ?_, by have := hB3.size; omega⟩
        have e : (turnL rows).take (k + 1) = (turnL rows).take k ++ [colL rows k] := by
          have hl : k < (turnL rows).length := by have := HZ.out; omega
          rw [List.take_succ_eq_append_getElem hl, ← hrow]
          simp [hl]
        rw [e]
        exact hpush
      case measure => simp [intOf]; omega
    · have hkn : k = n := by omega
      subst hkn
      go_wp2_with fail
      have h := HL.out
      rw [List.take_of_length_le (by have := HZ.out; omega)] at h
      go_ret
      obtain ⟨A', c', hv, hobj⟩ := h.shape
      have hz := HZ.out
      exact ⟨A', c', by rw [hz] at hv; rw [← hv]; rfl, HB.out, hobj⟩
end Go.Proofs.Ytaejgmdeiemhcab
