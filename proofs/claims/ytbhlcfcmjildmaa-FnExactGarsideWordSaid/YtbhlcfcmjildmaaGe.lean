import Derived.Test.YtbhlcfcmjildmaaGc
import Derived.Test.YtbhlcfcmjildmaaGb
import Derived.Test.YtbhlcfcmjildmaaGd
import Derived.Shelf.SlSortCmp.NoneTotal
import Derived.Test.YtbhlcfcmjildmaaProg
import Derived.Test.YtbhlcfcmjildmaaGa
namespace Go.Proofs.Ytbhlcfcmjildmaa
open Go Go.RowKit
set_option maxHeartbeats 1000000

theorem eqZ_any (A : Option Addr) (n c : Nat) (f : List (List Int)) (B : Option Addr) (m d : Nat) (s : List (List Int)) (A2 : Option Addr) (n2 c2 : Nat) (f2 : List (List Int)) (B2 : Option Addr) (m2 d2 : Nat) (s2 : List (List Int)) (r : Bool) (w : World)
    (hz : ZArg 1048576 w A n f B m s) (hz2 : ZArg 1048576 w A2 n2 f2 B2 m2 s2) (hr : r = true ↔ f = f2 ∧ s = s2) :
    Calls Try.prog 12 #[.agg #[.slice A n c, .slice B m d], .agg #[.slice A2 n2 c2, .slice B2 m2 d2]] w fun e w' => e = .returned (.bool r) ∧ Below w.heap.size w w' := by
  have HZ := hide hz
  have HZ2 := hide hz2
  have HR := hide hr
  clear hz hz2 hr
  have HB0 := hide (((Below.refl _ w).alloc (Nat.le_refl _) (Obj.cells #[Value.slice A n c, Value.slice B m d] 29)).alloc (by simp) (Obj.cells #[Value.slice A2 n2 c2, Value.slice B2 m2 d2] 29))
  have HK0 := hide ((Blk.new w 29 [.slice A n c, .slice B m d]).alloc (Obj.cells #[Value.slice A2 n2 c2, Value.slice B2 m2 d2] 29))
  have HL0 := hide (Blk.new (w.alloc (Obj.cells #[Value.slice A n c, Value.slice B m d] 29)) 29 [.slice A2 n2 c2, .slice B2 m2 d2])
  simp at HL0
  by_cases h1 : f = f2
  · have H1 := hide h1
    clear h1
    by_cases h2 : s = s2
    · have H2 := hide h2
      have hrt : r = true := HR.out.2 ⟨H1.out, h2⟩
      subst hrt
      clear h2
      go_enter Try.func12, Try.ntmps12
      go_wp2_with fail
      refine (eqq_any _ _ _ _ _ _ f f2 true _ HZ.out.sz.fl HZ2.out.sz.fl (by have := HZ.out.sz.nb; omega) (by have := HZ2.out.sz.nb; omega) (fun i hi => by have := HZ.out.sz.nr i hi; omega) (fun i hi => by have := HZ2.out.sz.nr i hi; omega) (HZ.out.fst.later HB0.out) (HZ2.out.fst.later HB0.out) (by simp [H1.out])).mono ?_
      rintro e w1 ⟨rfl, hq1⟩
      have HB1 := hide (HB0.out.trans (hq1.below _))
      have k1 := (HK0.out.later (hq1.below _)).cell 1 _ rfl
      have k2 := (HL0.out.later (hq1.below _)).cell 1 _ rfl
      clear hq1
      go_wp2_with fail
      refine (eqq_any _ _ _ _ _ _ s s2 true _ HZ.out.sz.sl HZ2.out.sz.sl (by have := HZ.out.sz.mb; omega) (by have := HZ2.out.sz.mb; omega) (fun i hi => by have := HZ.out.sz.mr i hi; omega) (fun i hi => by have := HZ2.out.sz.mr i hi; omega) (HZ.out.snd.later HB1.out) (HZ2.out.snd.later HB1.out) (by simp [H2.out])).mono ?_
      rintro e w2 ⟨rfl, hq2⟩
      have HB2 := hide (HB1.out.trans (hq2.below _))
      clear hq2
      go_wp2_with fail
      go_ret
      exact ⟨rfl, HB2.out⟩
    · have H2 := hide h2
      have hrt : r = false := by
        cases r
        · rfl
        · exact absurd (HR.out.1 rfl).2 h2
      subst hrt
      clear h2
      go_enter Try.func12, Try.ntmps12
      go_wp2_with fail
      refine (eqq_any _ _ _ _ _ _ f f2 true _ HZ.out.sz.fl HZ2.out.sz.fl (by have := HZ.out.sz.nb; omega) (by have := HZ2.out.sz.nb; omega) (fun i hi => by have := HZ.out.sz.nr i hi; omega) (fun i hi => by have := HZ2.out.sz.nr i hi; omega) (HZ.out.fst.later HB0.out) (HZ2.out.fst.later HB0.out) (by simp [H1.out])).mono ?_
      rintro e w1 ⟨rfl, hq1⟩
      have HB1 := hide (HB0.out.trans (hq1.below _))
      have k1 := (HK0.out.later (hq1.below _)).cell 1 _ rfl
      have k2 := (HL0.out.later (hq1.below _)).cell 1 _ rfl
      clear hq1
      go_wp2_with fail
      refine (eqq_any _ _ _ _ _ _ s s2 false _ HZ.out.sz.sl HZ2.out.sz.sl (by have := HZ.out.sz.mb; omega) (by have := HZ2.out.sz.mb; omega) (fun i hi => by have := HZ.out.sz.mr i hi; omega) (fun i hi => by have := HZ2.out.sz.mr i hi; omega) (HZ.out.snd.later HB1.out) (HZ2.out.snd.later HB1.out) (by simp [H2.out])).mono ?_
      rintro e w2 ⟨rfl, hq2⟩
      have HB2 := hide (HB1.out.trans (hq2.below _))
      clear hq2
      go_wp2_with fail
      go_ret
      exact ⟨rfl, HB2.out⟩
  · have H1 := hide h1
    have hrt : r = false := by
      cases r
      · rfl
      · exact absurd (HR.out.1 rfl).1 h1
    subst hrt
    clear h1
    go_enter Try.func12, Try.ntmps12
    go_wp2_with fail
    refine (eqq_any _ _ _ _ _ _ f f2 false _ HZ.out.sz.fl HZ2.out.sz.fl (by have := HZ.out.sz.nb; omega) (by have := HZ2.out.sz.nb; omega) (fun i hi => by have := HZ.out.sz.nr i hi; omega) (fun i hi => by have := HZ2.out.sz.nr i hi; omega) (HZ.out.fst.later HB0.out) (HZ2.out.fst.later HB0.out) (by simp [H1.out])).mono ?_
    rintro e w1 ⟨rfl, hq1⟩
    have HB1 := hide (HB0.out.trans (hq1.below _))
    clear hq1
    go_wp2_with fail
    go_ret
    exact ⟨rfl, HB1.out⟩
end Go.Proofs.Ytbhlcfcmjildmaa
namespace Go.Proofs.Ytbhlcfcmjildmaa
open Go Go.RowKit
set_option maxHeartbeats 1000000

theorem markZ (ts t : TypeId) (hne : ts ≠ t) (lo hi : Nat) (A : Option Addr) (n c : Nat) (B : Option Addr) (m d : Nat) (k : Int) (f s : List (List Int)) (w : World) (sz : ZSz 1048576 f n s m) (ht : tot f + tot s ≤ 2305843009213693952) (hk : 0 ≤ k) (hk2 : k ≤ 1152921504606846976) (hr : ObjZ ts t lo hi w A f B s) (hhi : hi ≤ w.heap.size) :
    Calls Try.prog 13 #[.agg #[.slice A n c, .slice B m d], .int .i64 k] w fun e w' => e = .returned (.int .i64 (k + (tot f : Int) + (tot s : Int))) ∧ Touch lo hi w w' ∧ ObjZ ts t lo hi w' A (marks2 k f) B (marks2 (k + (tot f : Int)) s) := by
  obtain ⟨mid, h1, h2, h3, h4⟩ := hr
  have HNE := hide hne
  have SZ := hide sz
  have H3 := hide h3
  have H4 := hide h4
  have HT := hide ht
  have HTF := hide sz.totf
  clear hne sz h3 h4 ht
  have htf := HTF.out
  obtain ⟨F, hF⟩ : ∃ F, tot f = F := ⟨_, rfl⟩
  obtain ⟨S, hS⟩ : ∃ S, tot s = S := ⟨_, rfl⟩
  rw [hF, hS]
  rw [hF] at htf
  have HF := hide hF
  have HS := hide hS
  have hk0 : Below w.heap.size w (w.alloc (Obj.cells #[Value.slice A n c, Value.slice B m d] 29)) := (Below.refl _ w).alloc (Nat.le_refl _) _
  have HB0 := hide hk0
  have HK0 := hide (Blk.new w 29 [.slice A n c, .slice B m d])
  clear hF hS hk0
  go_enter Try.func13, Try.ntmps13
  go_wp2_with fail
  refine (markT ts t HNE.out lo mid _ _ _ _ f _ SZ.out.fl SZ.out.nb SZ.out.nr (by have := HT.out; omega) hk (by omega) (H3.out.later HB0.out)).mono ?_
  rintro e w1 ⟨rfl, ht1, ho1⟩
  have HT1 := hide ((Touch.of_below HB0.out).trans (ht1.wide (Nat.le_refl _) h2))
  have HO1 := hide ho1
  have HP1 := hide (((H4.out.later HB0.out).far ht1 (.inr (Nat.le_refl _))))
  have HK1 := hide (HK0.out.touch ht1 (.inr (by omega)))
  have k1 := HK1.out.cell 1 _ rfl
  clear ht1 ho1
  rw [HF.out]
  go_wp2_with fail
  refine (markT ts t HNE.out mid hi _ _ _ _ s _ SZ.out.sl SZ.out.mb SZ.out.mr (by have := HT.out; omega) (by omega) (by omega) HP1.out).mono ?_
  rintro e w2 ⟨rfl, ht2, ho2⟩
  have HT2 := hide (HT1.out.trans (ht2.wide h1 (Nat.le_refl _)))
  have HO2 := hide (HO1.out.far ht2 (.inl (Nat.le_refl _)))
  have HP2 := hide ho2
  clear ht2 ho2
  rw [HS.out]
  go_wp2_with fail
  go_ret
  exact ⟨rfl, HT2.out, mid, h1, h2, HO2.out, HP2.out⟩

end Go.Proofs.Ytbhlcfcmjildmaa
namespace Go.Proofs.Ytbhlcfcmjildmaa
open Go Go.RowKit

/-- What a pair map is. -/
def PMap (f s : List (List Int)) : Prop := Tbl f ∧ Tbl s ∧ f.length = s.length

/-- The value of a table at two elements. -/
def ap (rows : List (List Int)) (a b : Nat) : Nat := ((rows.getD a []).getD b 0).toNat

theorem Tbl.ap_lt {rows : List (List Int)} (h : Tbl rows) {a b n : Nat} (hn : rows.length = n) (ha : a < n) (hb : b < n) : ap rows a b < n := by
  have h1 := (h.2.2 a (by omega)).2 b (by omega)
  unfold ap
  omega
theorem Tbl.ap_eq {rows : List (List Int)} (h : Tbl rows) {a b n : Nat} (hn : rows.length = n) (ha : a < n) (hb : b < n) : (rows.getD a []).getD b 0 = (ap rows a b : Int) := by
  have h1 := (h.2.2 a (by omega)).2 b (by omega)
  unfold ap
  omega
theorem Tbl.row_len {rows : List (List Int)} (h : Tbl rows) {a n : Nat} (hn : rows.length = n) (ha : a < n) : (rows.getD a []).length = n := by
  rw [h.rows a (by omega), hn]

/-- The cells of a table that is read in a world, at two elements. -/
theorem Tbl.cells {rows : List (List Int)} {w : World} {A : Option Addr} (h : Tbl rows) (hr : Rd2 w A rows) {n : Nat} (hn : rows.length = n) :
    ∃ b o, A = some ⟨b, o, none⟩ ∧ b < w.heap.size ∧ ∀ x, x < n → ∃ bx ox cx, w.cell? ⟨b, o + x, none⟩ = some (.slice (some ⟨bx, ox, none⟩) n cx) ∧ bx < w.heap.size ∧ ∀ y, y < n → w.cell? ⟨bx, ox + y, none⟩ = some (.int .i64 (ap rows x y)) := by
  have h1 := h.1
  obtain ⟨b, o, rfl, hb, hc⟩ := hr (by omega)
  refine ⟨b, o, rfl, hb, fun x hx => ?_⟩
  obtain ⟨Ax, cx, h2, h3⟩ := hc x (by omega)
  rw [h.row_len hn hx] at h2
  obtain ⟨bx, ox, rfl, h4, h5⟩ := h3 (by rw [h.row_len hn hx]; omega)
  refine ⟨bx, ox, cx, h2, h4, fun y hy => ?_⟩
  rw [h5 y (by rw [h.row_len hn hx]; exact hy), h.ap_eq hn hx hy]

/-- A result that is told only of what is good. -/
def BRes (good cond : Prop) (r : Bool) (code : Int) : Prop := (good ∧ (r = true ↔ cond) ∧ code = 0) ∨ (¬ good ∧ r = false ∧ code = 1)
theorem BRes.ex (good cond : Prop) : ∃ r code, BRes good cond r code := by
  by_cases h : good
  · obtain ⟨r, hr⟩ := bool_of cond
    exact ⟨r, _, .inl ⟨h, hr, rfl⟩⟩
  · exact ⟨_, _, .inr ⟨h, rfl, rfl⟩⟩
def PRes (f s : List (List Int)) (r : Bool) : Prop := r = true ↔ PMap f s
theorem PRes.ex (f s : List (List Int)) : ∃ r, PRes f s r := bool_of _

/-- Each pair of equal elements is led to itself. -/
def SqF (f s : List (List Int)) : Prop := ∀ x, x < f.length → ap f x x = x ∧ ap s x x = x
def SqRes (f s : List (List Int)) : Bool → Int → Prop := BRes (PMap f s) (SqF f s)
theorem SqRes.ex (f s : List (List Int)) : ∃ r code, SqRes f s r code := BRes.ex _ _
/-- Doing it twice leads each pair to itself. -/
def InvF (f s : List (List Int)) : Prop := ∀ x y, x < f.length → y < f.length → ap f (ap f x y) (ap s x y) = x ∧ ap s (ap f x y) (ap s x y) = y
def InvoRes (f s : List (List Int)) : Bool → Int → Prop := BRes (PMap f s) (InvF f s)
theorem InvoRes.ex (f s : List (List Int)) : ∃ r code, InvoRes f s r code := BRes.ex _ _
def NonF (f s : List (List Int)) : Prop := AllPrm f ∧ AllPrm (turnL s)
def NonRes (f s : List (List Int)) : Bool → Int → Prop := BRes (PMap f s) (NonF f s)
theorem NonRes.ex (f s : List (List Int)) : ∃ r code, NonRes f s r code := BRes.ex _ _

/-- What a pair map leads a pair to. -/
def AppRes (f s : List (List Int)) (x y u v code : Int) : Prop :=
  (PMap f s ∧ (0 ≤ x ∧ x < (f.length : Int)) ∧ (0 ≤ y ∧ y < (f.length : Int)) ∧ u = (ap f x.toNat y.toNat : Int) ∧ v = (ap s x.toNat y.toNat : Int) ∧ code = 0) ∨
  (PMap f s ∧ ¬ ((0 ≤ x ∧ x < (f.length : Int)) ∧ (0 ≤ y ∧ y < (f.length : Int))) ∧ u = 0 ∧ v = 0 ∧ code = 2) ∨ (¬ PMap f s ∧ u = 0 ∧ v = 0 ∧ code = 1)
theorem AppRes.ex (f s : List (List Int)) (x y : Int) : ∃ u v code, AppRes f s x y u v code := by
  by_cases h : PMap f s
  · by_cases h1 : (0 ≤ x ∧ x < (f.length : Int)) ∧ (0 ≤ y ∧ y < (f.length : Int))
    · exact ⟨_, _, _, .inl ⟨h, h1.1, h1.2, rfl, rfl, rfl⟩⟩
    · exact ⟨_, _, _, .inr (.inl ⟨h, h1, rfl, rfl, rfl⟩)⟩
  · exact ⟨_, _, _, .inr (.inr ⟨h, rfl, rfl, rfl⟩)⟩
end Go.Proofs.Ytbhlcfcmjildmaa
namespace Go.Proofs.Ytbhlcfcmjildmaa
open Go Go.RowKit Go.Sort Go.Lib
section
variable {α : Type} [Inhabited α]
theorem sortWorld_block (enc : α → Value) (w : World) (g n : Nat) (d : Array α) (os : Array Obj) (k : Nat) (hk : k ≠ g) (hlt : k < w.heap.size) : (sortWorld enc w g 0 n d os).heap[k]? = w.heap[k]? := by
  unfold sortWorld grow putRow mapBlock Sort.ahead
  simp only [Array.getElem?_append, Array.size_modify]
  rw [if_pos hlt, Array.getElem?_modify, if_neg (fun e => hk e.symm)]
theorem sortWorld_top (enc : α → Value) (w : World) (g n : Nat) (d : Array α) (os : Array Obj) (cur : Array Value) (t : TypeId) (fr : Nat × Nat) (h : w.heap[g]? = some (.cells cur t fr)) : (sortWorld enc w g 0 n d os).heap[g]? = some (.cells (putCells enc 0 d cur) t fr) := by
  have hlt : g < w.heap.size := (Array.getElem?_eq_some_iff.1 h).1
  unfold sortWorld grow putRow mapBlock Sort.ahead
  simp only [Array.getElem?_append, Array.size_modify]
  rw [if_pos hlt, Array.getElem?_modify, if_pos rfl, h]
  rfl
theorem sortWorld_size (enc : α → Value) (w : World) (g n : Nat) (d : Array α) (os : Array Obj) : w.heap.size ≤ (sortWorld enc w g 0 n d os).heap.size := by
  unfold sortWorld grow putRow mapBlock Sort.ahead
  simp
theorem sortWorld_low (enc : α → Value) (w : World) (g n : Nat) (d : Array α) (os : Array Obj) (B : Nat) (hB : B ≤ g) (hBw : B ≤ w.heap.size) : Go.RowKit.Below B w (sortWorld enc w g 0 n d os) :=
  ⟨rfl, rfl, rfl, sortWorld_size enc w g n d os, fun k hk => sortWorld_block enc w g n d os k (by omega) (by omega)⟩
theorem sortWorld_keep (enc : α → Value) (w : World) (g n : Nat) (d : Array α) (os : Array Obj) {ts t : TypeId} (hne : ts ≠ t) {cur : Array Value} {fr : Nat × Nat} (h : w.heap[g]? = some (.cells cur ts fr)) : KeepT t w (sortWorld enc w g 0 n d os) := by
  intro k c e
  by_cases hk : k = g
  · subst hk
    rw [h] at e
    injection e with e
    injection e with _ e
    exact absurd e hne
  · exact (sortWorld_block enc w g n d os k hk (Array.getElem?_eq_some_iff.1 e).1).trans e
end
theorem cmpW_neg (p q : List Int) : cmpW p q < 0 ↔ lessL p q = true := by
  unfold cmpW
  by_cases h : lessL p q = true
  · simp [h]
  · by_cases h2 : lessL q p = true
    · simp [h, h2]
    · simp [h, h2]
section
variable {M : Nat} (R : Fin (M + 1) → List Int)
theorem rowLt (x y : Fin (M + 1)) : ltOf (fun i j => cmpW (R i) (R j)) x y = lessL (R x) (R y) := by
  unfold ltOf
  have h := cmpW_neg (R x) (R y)
  cases h2 : lessL (R x) (R y) with
  | true => rw [h2] at h; simpa using h.2 rfl
  | false =>
    rw [h2] at h
    have h3 : ¬ cmpW (R x) (R y) < 0 := fun h3 => by have := h.1 h3; cases this
    simpa using h3
theorem rowSwo : SWO (ltOf (fun i j => cmpW (R i) (R j))) where
  irrefl x := by rw [rowLt]; exact lessL_irr _
  trans x y z h1 h2 := by rw [rowLt] at *; exact lessL_trans _ _ _ h1 h2
  ntrans x y z h1 h2 := by
    rw [rowLt] at *
    cases h3 : lessL (R x) (R z) with
    | false => rfl
    | true =>
      exfalso
      by_cases e : R x = R y
      · rw [e] at h3; rw [h3] at h2; cases h2
      · rcases lessL_tri _ _ e with h | h
        · rw [h] at h1; cases h1
        · have := lessL_trans _ _ _ h h3
          rw [this] at h2; cases h2
theorem rowTot (hinj : ∀ x y, R x = R y → x = y) (x y : Fin (M + 1)) (h1 : ltOf (fun i j => cmpW (R i) (R j)) x y = false) (h2 : ltOf (fun i j => cmpW (R i) (R j)) y x = false) : x = y := by
  rw [rowLt] at h1 h2
  by_cases e : R x = R y
  · exact hinj x y e
  · rcases lessL_tri _ _ e with h | h
    · rw [h] at h1; cases h1
    · rw [h] at h2; cases h2
/-- The indices in the order of their rows. -/
def srtI : List (Fin (M + 1)) := (Array.ofFn (n := M + 1) id).toList.mergeSort fun x y => !(ltOf (fun i j => cmpW (R i) (R j))) y x
theorem srtI_perm : (srtI R).Perm (List.ofFn (n := M + 1) id) := by
  have h := List.mergeSort_perm (Array.ofFn (n := M + 1) id).toList (fun x y => !(ltOf (fun i j => cmpW (R i) (R j))) y x)
  unfold srtI
  simpa using h
theorem srtI_len : (srtI R).length = M + 1 := by
  have := (srtI_perm R).length_eq
  simpa using this
theorem srtI_mem (x : Fin (M + 1)) : x ∈ srtI R := (srtI_perm R).mem_iff.2 (List.mem_ofFn.2 ⟨x, rfl⟩)
theorem srtI_nd : (srtI R).Nodup := by
  refine (srtI_perm R).nodup_iff.2 ?_
  rw [List.nodup_iff_pairwise_ne, List.pairwise_iff_getElem]
  intro i j hi hj hij e
  rw [List.getElem_ofFn, List.getElem_ofFn] at e
  have e2 : i = j := congrArg Fin.val e
  omega
theorem srtI_asc (hinj : ∀ x y, R x = R y → x = y) : ((srtI R).map R).Pairwise fun a b => lessL a b = true := by
  have hs : (srtI R).Pairwise fun x y => (!(ltOf (fun i j => cmpW (R i) (R j))) y x) = true := by
    unfold srtI
    refine List.pairwise_mergeSort (fun x y z h1 h2 => ?_) (fun x y => ?_) _
    · simp only [Bool.not_eq_true'] at *
      exact (rowSwo R).ntrans _ _ _ h2 h1
    · cases h : ltOf (fun i j => cmpW (R i) (R j)) y x with
      | false => simp
      | true =>
        have : ltOf (fun i j => cmpW (R i) (R j)) x y = false := by
          cases h2 : ltOf (fun i j => cmpW (R i) (R j)) x y with
          | false => rfl
          | true =>
            have h3 := (rowSwo R).trans _ _ _ h h2
            rw [(rowSwo R).irrefl] at h3
            cases h3
        simp [this]
  have hn := List.nodup_iff_pairwise_ne.1 (srtI_nd R)
  rw [List.pairwise_map]
  refine List.Pairwise.imp₂ ?_ hs hn
  intro a b h1 h2
  rw [Bool.not_eq_true', rowLt] at h1
  rcases lessL_tri (R a) (R b) (fun e => h2 (hinj a b e)) with h | h
  · exact h
  · rw [h] at h1; cases h1
end
end Go.Proofs.Ytbhlcfcmjildmaa
namespace Go.Proofs.Ytbhlcfcmjildmaa
open Go Go.RowKit

/-- What a system is. -/
def Sys (n : Int) (rows : List (List Int)) : Prop := 1 ≤ n ∧ n ≤ 12 ∧ rows.length ≤ 16 ∧ ∀ i, i < rows.length → ((rows.getD i []).length : Int) = n ∧ Prm (rows.getD i [])
/-- A step of a system from an element to an element. -/
def stp (rows : List (List Int)) (x y : Nat) : Prop := ∃ i, i < rows.length ∧ ((rows.getD i []).getD x 0).toNat = y
inductive Rch (rows : List (List Int)) (x : Nat) : Nat → Prop
  | start : Rch rows x x
  | step {y z : Nat} : Rch rows x y → stp rows y z → Rch rows x z
end Go.Proofs.Ytbhlcfcmjildmaa
namespace Go.Proofs.Ytbhlcfcmjildmaa
open Go Go.RowKit
set_option maxHeartbeats 1000000

theorem size_any (A : Option Addr) (n c : Nat) (B : Option Addr) (m d : Nat) (w : World) (_hn : n ≤ 1048576) :
    Calls Try.prog 37 #[.agg #[.slice A n c, .slice B m d]] w fun e w' => e = .returned (.int .i64 n) ∧ Below w.heap.size w w' := by
  have HB0 := hide ((Below.refl _ w).alloc (Nat.le_refl _) (Obj.cells #[Value.slice A n c, Value.slice B m d] 29))
  go_enter Try.func37, Try.ntmps37
  go_wp2_with fail
  go_ret
  exact ⟨rfl, HB0.out⟩
end Go.Proofs.Ytbhlcfcmjildmaa
namespace Go.Proofs.Ytbhlcfcmjildmaa
open Go Go.RowKit

section
variable {ts t tz : TypeId} {B : Nat} {w w' w1 : World} {v v' : Value} {rows : List (List Int)} {vals : List Value}

theorem own_type {n : Nat} {xs : List Value} (h : w.ownsRow B ts 1 v n xs) {g : Nat} (hg : v.ownBlock = some g) : g < w.heap.size ∧ B ≤ g ∧ ∃ cur : Array Value, w.heap[g]? = some (.cells cur ts (0, 0)) := by
  rcases h.2 with ⟨hv, _⟩ | ⟨g', cap, cur, hv, h1, hh, _⟩
  · rw [hv] at hg; cases hg
  · rw [hv] at hg
    have e : g' = g := by simpa [Value.ownBlock] using hg
    subst e
    exact ⟨(Array.getElem?_eq_some_iff.1 hh).1, h1, cur, hh⟩

theorem own_form {n : Nat} {xs : List Value} (h : w.ownsRow B ts 1 v (n + 1) xs) : ∃ g cap, v = .slice (some ⟨g, 0, none⟩) (n + 1) cap := by
  rcases h.2 with ⟨_, h0⟩ | ⟨g, cap, cur, hv, _⟩
  · omega
  · exact ⟨g, cap, hv⟩

theorem LstV.beside {o : Option Nat} (h : LstV ts t B w v rows vals) (hg : w.grownBy w' o) (hv : v.ownBlock = none ∨ v.ownBlock ≠ o) (hk : KeepT t w w') : LstV ts t B w' v rows vals :=
  ⟨h.own.kept hg hv, fun i hi => by
    obtain ⟨A, c, h1, h2⟩ := h.row i hi
    exact ⟨A, c, h1, (hk.obj h2).mono (Nat.le_refl _) hg.size⟩, h.ne⟩

/-- Two lists of rows that the call builds by append, in the box ob. -/
structure Two (ts t tz : TypeId) (B : Nat) (w : World) (ob : Nat) (v1 v2 : Value) (rows1 rows2 : List (List Int)) (vals1 vals2 : List Value) : Prop where
  box : Blk w ob tz [v1, v2]
  low : ob < B
  bsz : B ≤ w.heap.size
  l1 : LstV ts t B w v1 rows1 vals1
  l2 : LstV ts t B w v2 rows2 vals2
  ne : ∀ g, v1.ownBlock = some g → v2.ownBlock ≠ some g

variable {ob : Nat} {v1 v2 : Value} {rows1 rows2 : List (List Int)} {vals1 vals2 : List Value}

theorem Two.later (h : Two ts t tz B w ob v1 v2 rows1 rows2 vals1 vals2) (hb : Below w.heap.size w w') : Two ts t tz B w' ob v1 v2 rows1 rows2 vals1 vals2 :=
  ⟨h.box.later hb, h.low, Nat.le_trans h.bsz hb.size, h.l1.later hb, h.l2.later hb, h.ne⟩

theorem store_low (h : LstV ts t B w v rows vals) (hl : ob < B) (i : Nat) (u : Value) : LstV ts t B (w.setCell ⟨ob, i, none⟩ u) v rows vals :=
  h.of_blocks (fun k hk _ => Below.heap_setCell w ⟨ob, i, none⟩ u k (by show k ≠ ob; omega)) (by simp [World.setCell])

theorem Two.kept1 {tmp : Obj} (h : Two ts t tz B w ob v1 v2 rows1 rows2 vals1 vals2) (hg : (w.alloc tmp).grownBy w1 v1.ownBlock) : Blk w1 ob tz [v1, v2] :=
  (hg.block ob (by have := h.box.lt; simp; omega) (fun e => by
    have := (own_type h.l1.own e.symm).2.1
    have := h.low
    omega)).trans (h.box.later ((Below.refl _ _).alloc (Nat.le_refl _) _))
theorem Two.kept2 {tmp : Obj} (h : Two ts t tz B w ob v1 v2 rows1 rows2 vals1 vals2) (hg : (w.alloc tmp).grownBy w1 v2.ownBlock) : Blk w1 ob tz [v1, v2] :=
  (hg.block ob (by have := h.box.lt; simp; omega) (fun e => by
    have := (own_type h.l2.own e.symm).2.1
    have := h.low
    omega)).trans (h.box.later ((Below.refl _ _).alloc (Nat.le_refl _) _))

/-- A row is appended to the first list. -/
theorem Two.push1 {A : Option Addr} {c : Nat} {r : List Int} {tmp : Obj} (hne : ts ≠ t) (h : Two ts t tz B w ob v1 v2 rows1 rows2 vals1 vals2) (hA : Obj1 t B w.heap.size w A r)
    (hdis : ∀ (i : Nat) (u : Value) (g : Nat), vals1[i]? = some u → u.ownBlock = some g → ∀ a, A = some a → a.block ≠ g)
    (hown : w1.ownsRow B ts 1 v' (rows1.length + 1) (vals1 ++ [.slice A r.length c])) (hg : (w.alloc tmp).grownBy w1 v1.ownBlock) (hat : v'.ownBlock = v1.ownBlock ∨ v'.ownBlock = some (w.alloc tmp).heap.size) :
    Two ts t tz B (w1.setCell ⟨ob, 0, none⟩ v') ob v' v2 (rows1 ++ [r]) rows2 (vals1 ++ [.slice A r.length c]) vals2 := by
  have hal : Below w.heap.size w (w.alloc tmp) := (Below.refl _ _).alloc (Nat.le_refl _) _
  have hobw : ob < w.heap.size := h.box.lt
  have hob1 : some ob ≠ v1.ownBlock := fun e => by
    have := (own_type h.l1.own e.symm).2.1
    have := h.low
    omega
  have hv2 : v2.ownBlock = none ∨ v2.ownBlock ≠ v1.ownBlock := by
    cases e : v2.ownBlock with
    | none => exact .inl rfl
    | some g => exact .inr (fun e2 => h.ne g e2.symm e)
  have hk : KeepT t (w.alloc tmp) w1 := KeepT.of_grown hne (ownsRow_below h.l1.own hal) hg
  refine ⟨?_, h.low, by have h1 := hg.size; have h2 := h.bsz; simp at h1; simp [World.setCell]; omega, store_low (h.l1.push2 hne hA hdis hown hg) h.low _ _, store_low ((h.l2.later hal).beside hg hv2 hk) h.low _ _, fun g hg1 => ?_⟩
  · have hb1 : Blk w1 ob tz [v1, v2] := (hg.block ob (by simp; omega) hob1).trans (h.box.later hal)
    exact hb1.set 0 v'
  · rcases hat with e | e
    · exact h.ne g (e ▸ hg1)
    · intro e2
      have h3 := (own_type h.l2.own e2).1
      rw [e] at hg1
      simp at hg1
      omega

/-- .. to the second one. -/
theorem Two.push2 {A : Option Addr} {c : Nat} {r : List Int} {tmp : Obj} (hne : ts ≠ t) (h : Two ts t tz B w ob v1 v2 rows1 rows2 vals1 vals2) (hA : Obj1 t B w.heap.size w A r)
    (hdis : ∀ (i : Nat) (u : Value) (g : Nat), vals2[i]? = some u → u.ownBlock = some g → ∀ a, A = some a → a.block ≠ g)
    (hown : w1.ownsRow B ts 1 v' (rows2.length + 1) (vals2 ++ [.slice A r.length c])) (hg : (w.alloc tmp).grownBy w1 v2.ownBlock) (hat : v'.ownBlock = v2.ownBlock ∨ v'.ownBlock = some (w.alloc tmp).heap.size) :
    Two ts t tz B (w1.setCell ⟨ob, 1, none⟩ v') ob v1 v' rows1 (rows2 ++ [r]) vals1 (vals2 ++ [.slice A r.length c]) := by
  have hal : Below w.heap.size w (w.alloc tmp) := (Below.refl _ _).alloc (Nat.le_refl _) _
  have hobw : ob < w.heap.size := h.box.lt
  have hob1 : some ob ≠ v2.ownBlock := fun e => by
    have := (own_type h.l2.own e.symm).2.1
    have := h.low
    omega
  have hv2 : v1.ownBlock = none ∨ v1.ownBlock ≠ v2.ownBlock := by
    cases e : v1.ownBlock with
    | none => exact .inl rfl
    | some g => exact .inr (fun e2 => h.ne g e e2.symm)
  have hk : KeepT t (w.alloc tmp) w1 := KeepT.of_grown hne (ownsRow_below h.l2.own hal) hg
  refine ⟨?_, h.low, by have h1 := hg.size; have h2 := h.bsz; simp at h1; simp [World.setCell]; omega, store_low ((h.l1.later hal).beside hg hv2 hk) h.low _ _, store_low (h.l2.push2 hne hA hdis hown hg) h.low _ _, fun g hg1 e2 => ?_⟩
  · have hb1 : Blk w1 ob tz [v1, v2] := (hg.block ob (by simp; omega) hob1).trans (h.box.later hal)
    exact hb1.set 1 v'
  · rcases hat with e | e
    · exact h.ne g hg1 (e ▸ e2)
    · have h3 := (own_type h.l1.own hg1).1
      rw [e] at e2
      simp at e2
      omega

theorem Two.start (w : World) (ts t tz : TypeId) (hb : Blk w ob tz [.slice none 0 0, .slice none 0 0]) : Two ts t tz (ob + 1) w ob (.slice none 0 0) (.slice none 0 0) [] [] [] [] :=
  ⟨hb, Nat.lt_succ_self _, hb.lt, LstV.nil _ _ _ _, LstV.nil _ _ _ _, fun g h => by cases h⟩

/-- Block g of the row is kept by pushing to a list. -/
theorem push_keeps {lo hi : Nat} {A : Option Addr} {xs : List Int} {n : Nat} {ys : List Value} {tmp : Obj} (hne : ts ≠ t) (ho : w.ownsRow B ts 1 v n ys) (hg : (w.alloc tmp).grownBy w1 v.ownBlock) (h : Obj1 t lo hi w A xs) : Obj1 t lo hi w1 A xs :=
  (KeepT.of_grown (t := t) hne (ownsRow_below ho ((Below.refl _ _).alloc (Nat.le_refl _) _)) hg).obj (h.later ((Below.refl _ _).alloc (Nat.le_refl _) _))

/-- Appending to list 1 and storing the result leaves the blocks below the lists, but for the box. -/
theorem Two.frame1 {tmp : Obj} (h : Two ts t tz B w ob v1 v2 rows1 rows2 vals1 vals2) (hg : (w.alloc tmp).grownBy w1 v1.ownBlock) (u : Value) {k : Nat} (hk : k < B) (hne : k ≠ ob) (hkw : k < w.heap.size) : (w1.setCell ⟨ob, 0, none⟩ u).heap[k]? = w.heap[k]? :=
  (Below.heap_setCell w1 ⟨ob, 0, none⟩ u k hne).trans ((hg.block k (by simp; omega) (fun e => by
    have := (own_type h.l1.own e.symm).2.1
    omega)).trans (((Below.refl w.heap.size w).alloc (Nat.le_refl _) tmp).block k hkw))
theorem Two.below1 {tmp : Obj} {b0 : Nat} {w0 : World} (h : Two ts t tz B w ob v1 v2 rows1 rows2 vals1 vals2) (hg : (w.alloc tmp).grownBy w1 v1.ownBlock) (u : Value) (hb : Below b0 w0 w) (h0 : b0 ≤ ob) : Below b0 w0 (w1.setCell ⟨ob, 0, none⟩ u) :=
  ((hb.alloc (by have := h.box.lt; omega) tmp).grown hg (by have := h.box.lt; simp; omega) (fun g e => by
    have := (own_type h.l1.own e).2.1
    have := h.low
    omega)).setCell (p := ⟨ob, 0, none⟩) h0 u
theorem Two.add1 {w0 : World} {A : Option Addr} {c k x gg cap : Nat} {r : List Int} {tmp : Obj} {lo : Nat} (hne : ts ≠ t) (h0 : Two ts t tz B w0 ob v1 v2 rows1 rows2 vals1 vals2 ∨ ∃ u u' R R' VS VS', Two ts t tz B w0 ob u u' R R' VS VS' ∧ v1 = u ∧ rows1 = R ∧ vals1 = VS) (h : Two ts t tz B w ob v1 v2 rows1 rows2 vals1 vals2) (hlo : w0.heap.size ≤ lo) (hA : Obj1 t lo w.heap.size w A r) (hl : rows1.length = x) (hr : r.length = k)
    (hown : w1.ownsRow B ts 1 (.slice (some ⟨gg, 0, none⟩) (x + 1) cap) (x + 1) (vals1 ++ [.slice A k c])) (hg : (w.alloc tmp).grownBy w1 v1.ownBlock) (hat : v1.ownBlock = some gg ∨ gg = w.heap.size + 1) :
    Two ts t tz B (w1.setCell ⟨ob, 0, none⟩ (.slice (some ⟨gg, 0, none⟩) (x + 1) cap)) ob (.slice (some ⟨gg, 0, none⟩) (x + 1) cap) v2 (rows1 ++ [r]) rows2 (vals1 ++ [.slice A k c]) vals2 := by
  have hlow : ∀ (i : Nat) (u : Value) (g : Nat), vals1[i]? = some u → u.ownBlock = some g → g < w0.heap.size := by
    rcases h0 with h0 | ⟨u, u', R, R', VS, VS', h0, rfl, rfl, rfl⟩
    · exact h0.l1.low
    · exact h0.l1.low
  have hB : B ≤ w0.heap.size := by
    rcases h0 with h0 | ⟨u, u', R, R', VS, VS', h0, _⟩
    · have := h0.box.lt; have := h0.low; have := h0.l1.own; exact h0.bsz
    · exact h0.bsz
  subst hr
  subst hl
  refine h.push1 hne (hA.mono (by omega) (Nat.le_refl _)) (fun i u g hu hug a ha => ?_) hown hg ?_
  · have h1 := hlow i u g hu hug
    have h2 := (hA.bounds a ha).1
    omega
  · rcases hat with e | e
    · exact .inl (by rw [e]; rfl)
    · exact .inr (by rw [e]; simp [Value.ownBlock])

/-- Appending to list 2 and storing the result leaves the blocks below the lists, but for the box. -/
theorem Two.frame2 {tmp : Obj} (h : Two ts t tz B w ob v1 v2 rows1 rows2 vals1 vals2) (hg : (w.alloc tmp).grownBy w1 v2.ownBlock) (u : Value) {k : Nat} (hk : k < B) (hne : k ≠ ob) (hkw : k < w.heap.size) : (w1.setCell ⟨ob, 1, none⟩ u).heap[k]? = w.heap[k]? :=
  (Below.heap_setCell w1 ⟨ob, 1, none⟩ u k hne).trans ((hg.block k (by simp; omega) (fun e => by
    have := (own_type h.l2.own e.symm).2.1
    omega)).trans (((Below.refl w.heap.size w).alloc (Nat.le_refl _) tmp).block k hkw))
theorem Two.below2 {tmp : Obj} {b0 : Nat} {w0 : World} (h : Two ts t tz B w ob v1 v2 rows1 rows2 vals1 vals2) (hg : (w.alloc tmp).grownBy w1 v2.ownBlock) (u : Value) (hb : Below b0 w0 w) (h0 : b0 ≤ ob) : Below b0 w0 (w1.setCell ⟨ob, 1, none⟩ u) :=
  ((hb.alloc (by have := h.box.lt; omega) tmp).grown hg (by have := h.box.lt; simp; omega) (fun g e => by
    have := (own_type h.l2.own e).2.1
    have := h.low
    omega)).setCell (p := ⟨ob, 1, none⟩) h0 u
theorem Two.add2 {w0 : World} {A : Option Addr} {c k x gg cap : Nat} {r : List Int} {tmp : Obj} {lo : Nat} (hne : ts ≠ t) (h0 : Two ts t tz B w0 ob v1 v2 rows1 rows2 vals1 vals2 ∨ ∃ u u' R R' VS VS', Two ts t tz B w0 ob u u' R R' VS VS' ∧ v2 = u' ∧ rows2 = R' ∧ vals2 = VS') (h : Two ts t tz B w ob v1 v2 rows1 rows2 vals1 vals2) (hlo : w0.heap.size ≤ lo) (hA : Obj1 t lo w.heap.size w A r) (hl : rows2.length = x) (hr : r.length = k)
    (hown : w1.ownsRow B ts 1 (.slice (some ⟨gg, 0, none⟩) (x + 1) cap) (x + 1) (vals2 ++ [.slice A k c])) (hg : (w.alloc tmp).grownBy w1 v2.ownBlock) (hat : v2.ownBlock = some gg ∨ gg = w.heap.size + 1) :
    Two ts t tz B (w1.setCell ⟨ob, 1, none⟩ (.slice (some ⟨gg, 0, none⟩) (x + 1) cap)) ob v1 (.slice (some ⟨gg, 0, none⟩) (x + 1) cap) rows1 (rows2 ++ [r]) vals1 (vals2 ++ [.slice A k c]) := by
  have hlow : ∀ (i : Nat) (u : Value) (g : Nat), vals2[i]? = some u → u.ownBlock = some g → g < w0.heap.size := by
    rcases h0 with h0 | ⟨u, u', R, R', VS, VS', h0, rfl, rfl, rfl⟩
    · exact h0.l2.low
    · exact h0.l2.low
  have hB : B ≤ w0.heap.size := by
    rcases h0 with h0 | ⟨u, u', R, R', VS, VS', h0, _⟩
    · have := h0.box.lt; have := h0.low; have := h0.l1.own; exact h0.bsz
    · exact h0.bsz
  subst hr
  subst hl
  refine h.push2 hne (hA.mono (by omega) (Nat.le_refl _)) (fun i u g hu hug a ha => ?_) hown hg ?_
  · have h1 := hlow i u g hu hug
    have h2 := (hA.bounds a ha).1
    omega
  · rcases hat with e | e
    · exact .inl (by rw [e]; rfl)
    · exact .inr (by rw [e]; simp [Value.ownBlock])

theorem row_kept {k : Nat} {lo hi : Nat} {A : Option Addr} {xs : List Int} {n : Nat} {ys : List Value} {tmp : Obj} (hne : ts ≠ t) (ho : w.ownsRow B ts 1 v n ys) (hg : (w.alloc tmp).grownBy w1 v.ownBlock) (h : Obj1 t lo hi w A xs) (hk : ob < lo) (u : Value) : Obj1 t lo hi (w1.setCell ⟨ob, k, none⟩ u) A xs :=
  (push_keeps hne ho hg h).set (p := ⟨ob, k, none⟩) (.inl hk) u
end
end Go.Proofs.Ytbhlcfcmjildmaa
namespace Go.Proofs.Ytbhlcfcmjildmaa
open Go Go.RowKit

/-- The boxes of a call, the greatest at most top; and nothing below is changed. -/
structure FB (w wx : World) (top : Nat) (bs : List (Nat × TypeId × List Value)) : Prop where
  below : Below w.heap.size w wx
  blks : ∀ q, q ∈ bs → Blk wx q.1 q.2.1 q.2.2 ∧ q.1 ≤ top
  low : w.heap.size ≤ top
  sz : top < wx.heap.size

section
variable {w wx wy : World} {top : Nat} {bs : List (Nat × TypeId × List Value)}
theorem FB.of (hb : Below w.heap.size w wx) (hw : w.heap.size < wx.heap.size) (h : ∀ q, q ∈ bs → Blk wx q.1 q.2.1 q.2.2) : FB w wx (wx.heap.size - 1) bs :=
  ⟨hb, fun q hq => ⟨h q hq, by have := (h q hq).lt; omega⟩, by omega, by omega⟩
theorem FB.later (h : FB w wx top bs) (hb : Below wx.heap.size wx wy) : FB w wy top bs :=
  ⟨h.below.trans (hb.mono h.below.size), fun q hq => ⟨(h.blks q hq).1.later hb, (h.blks q hq).2⟩, h.low, Nat.lt_of_lt_of_le h.sz hb.size⟩
theorem FB.set (h : FB w wx top bs) {p : Addr} (hp : top < p.block) (v : Value) : FB w (wx.setCell p v) top bs :=
  ⟨h.below.setCell (Nat.le_trans h.low (Nat.le_of_lt hp)) v, fun q hq => ⟨(h.blks q hq).1.far (by have := (h.blks q hq).2; omega) v, (h.blks q hq).2⟩, h.low, by have := h.sz; simp [World.setCell]; omega⟩
theorem FB.push (h : FB w wx top bs) {L : Nat} {t : TypeId} {cs : List Value} (hb : Blk wx L t cs) (hL : top < L) : FB w wx L ((L, t, cs) :: bs) :=
  ⟨h.below, fun q hq => by
    rcases List.mem_cons.1 hq with rfl | hq
    · exact ⟨hb, Nat.le_refl _⟩
    · exact ⟨(h.blks q hq).1, by have := (h.blks q hq).2; omega⟩, by have := h.low; omega, hb.lt⟩
theorem FB.new (h : FB w wx top bs) (t : TypeId) (cs : List Value) : FB w (wx.alloc (.cells cs.toArray t)) wx.heap.size ((wx.heap.size, t, cs) :: bs) :=
  (h.later ((Below.refl _ _).alloc (Nat.le_refl _) _)).push (Blk.new _ _ _) h.sz
theorem FB.blk (h : FB w wx top bs) {b : Nat} {t : TypeId} {cs : List Value} (hm : (b, t, cs) ∈ bs) : Blk wx b t cs := (h.blks _ hm).1
theorem FB.le (h : FB w wx top bs) {b : Nat} {t : TypeId} {cs : List Value} (hm : (b, t, cs) ∈ bs) : b ≤ top := (h.blks _ hm).2
end
end Go.Proofs.Ytbhlcfcmjildmaa
namespace Go.Proofs.Ytbhlcfcmjildmaa
open Go Go.RowKit

/-- A slice of n slices in block g of which the first k are laid: the rows h 0, h 1, .. in blocks of their own behind it. -/
structure Fil (ts t : TypeId) (n k : Nat) (h : Nat → List Int) (lo g : Nat) (w : World) : Prop where
  low : lo ≤ g
  all : ∃ (cur : Array Value) (R : Nat → Option Addr) (C : Nat → Nat), w.heap[g]? = some (.cells cur ts (0, 0)) ∧ cur.size = n ∧ (∀ i, i < k → cur[i]? = some (.slice (R i) (h i).length (C i))) ∧ (∀ i, i < k → Obj1 t (g + 1) w.heap.size w (R i) (h i)) ∧
    (∀ i j, i < k → j < k → i ≠ j → ∀ a b, R i = some a → R j = some b → a.block ≠ b.block)

section
variable {ts t : TypeId} {n k : Nat} {h : Nat → List Int} {lo g : Nat} {w w' : World}
theorem Fil.lt (f : Fil ts t n k h lo g w) : g < w.heap.size := by
  obtain ⟨_, cur, R, C, h1, _⟩ := f
  exact (Array.getElem?_eq_some_iff.1 h1).1
theorem Fil.start (w : World) (hlo : lo ≤ w.heap.size) : Fil ts t n 0 h lo w.heap.size (w.alloc (.cells (madeCells #[.slice none 0 0] n) ts)) :=
  ⟨hlo, _, fun _ => none, fun _ => 0, heap_alloc_new _ _, by simp [madeCells], fun i hi => absurd hi (Nat.not_lt_zero _), fun i hi => absurd hi (Nat.not_lt_zero _), fun i j hi => absurd hi (Nat.not_lt_zero _)⟩
theorem Fil.later (f : Fil ts t n k h lo g w) (hb : Below w.heap.size w w') : Fil ts t n k h lo g w' := by
  have hl := f.lt
  obtain ⟨h0, cur, R, C, h1, h2, h3, h4, h5⟩ := f
  exact ⟨h0, cur, R, C, (hb.block g hl).trans h1, h2, h3, fun i hi => ((h4 i hi).later hb).mono (Nat.le_refl _) hb.size, h5⟩
theorem Fil.at (f : Fil ts t n k h lo g w) (i : Nat) (hi : i < n) : (∃ v, w.cell? ⟨g, i, none⟩ = some v) ∧ w.frozen? ⟨g, i, none⟩ = false := by
  obtain ⟨_, cur, R, C, h1, h2, _⟩ := f
  refine ⟨?_, by simp [World.frozen?, h1]⟩
  rw [cell_of_row w g i cur ts (0, 0) h1]
  exact ⟨cur[i]'(by omega), by simp [h2, hi]⟩
theorem Fil.push {A : Option Addr} {c : Nat} (f : Fil ts t n k h lo g w) (hb : Below w.heap.size w w') (hA : Res t w.heap.size w' A (h k)) (hk : k < n) :
    Fil ts t n (k + 1) h lo g (w'.setCell ⟨g, k, none⟩ (.slice A (h k).length c)) := by
  have hl := f.lt
  have f' := f.later hb
  obtain ⟨h0, cur, R, C, h1, h2, h3, h4, h5⟩ := f
  have hg' : w'.heap[g]? = some (.cells cur ts (0, 0)) := (hb.block g hl).trans h1
  have hold : ∀ i, i < k → Obj1 t (g + 1) w.heap.size w' (R i) (h i) := fun i hi => (h4 i hi).later hb
  have hnew : Obj1 t w.heap.size w'.heap.size w' A (h k) := hA.obj
  refine ⟨h0, cur.set! k (.slice A (h k).length c), fun i => if i = k then A else R i, fun i => if i = k then c else C i, ?_, by simp [h2], ?_, ?_, ?_⟩
  · simp [World.setCell, Array.getElem?_modify, hg']
  · intro i hi
    by_cases e : i = k
    · subst e
      simp [h2, hk]
    · simp only [if_neg e]
      rw [Array.set!_eq_setIfInBounds, Array.getElem?_setIfInBounds_ne (fun e2 => e e2.symm)]
      exact h3 i (by omega)
  · intro i hi
    have hs : (w'.setCell ⟨g, k, none⟩ (.slice A (h k).length c)).heap.size = w'.heap.size := by simp [World.setCell]
    rw [hs]
    by_cases e : i = k
    · subst e
      simp only [if_pos]
      exact (hnew.mono (lo' := g + 1) (by omega) (Nat.le_refl _)).set (.inl (Nat.lt_succ_self _)) _
    · simp only [if_neg e]
      exact ((hold i (by omega)).mono (Nat.le_refl _) hb.size).set (.inl (Nat.lt_succ_self _)) _
  · intro i j hi hj hne a b ha hb'
    by_cases e1 : i = k
    · have e2 : j ≠ k := fun e2 => hne (e1.trans e2.symm)
      simp only [if_pos e1, if_neg e2] at ha hb'
      have p := hnew.bounds a ha
      have q := (h4 j (by omega)).bounds b hb'
      omega
    · simp only [if_neg e1] at ha
      by_cases e2 : j = k
      · simp only [if_pos e2] at hb'
        have p := hnew.bounds b hb'
        have q := (h4 i (by omega)).bounds a ha
        omega
      · simp only [if_neg e2] at hb'
        exact h5 i j (by omega) (by omega) hne a b ha hb'
theorem Fil.done (f : Fil ts t n n h lo g w) : Obj2 ts t lo w.heap.size w (some ⟨g, 0, none⟩) ((List.range n).map h) := by
  have hl := f.lt
  obtain ⟨h0, cur, R, C, h1, h2, h3, h4, h5⟩ := f
  have hg : ∀ i, i < n → ((List.range n).map h).getD i [] = h i := fun i hi => by simp [hi]
  refine .inr ⟨g, R, C, rfl, h0, hl, ⟨cur, h1, fun i hi => ?_⟩, fun i hi => ?_, fun i j hi hj => ?_⟩
  · simp only [List.length_map, List.length_range] at hi
    rw [hg i hi]
    exact h3 i hi
  · simp only [List.length_map, List.length_range] at hi
    rw [hg i hi]
    exact (h4 i hi).mono (by omega) (Nat.le_refl _)
  · simp only [List.length_map, List.length_range] at hi hj
    exact h5 i j hi hj
end

theorem rd_rows {w : World} {A : Option Addr} {f : List (List Int)} {n : Nat} (ht : Tbl f) (hr : Rd2 w A f) (hn : f.length = n) : ∃ b o, A = some ⟨b, o, none⟩ ∧ b < w.heap.size ∧ ∀ x, x < n → ∃ B c, w.cell? ⟨b, o + x, none⟩ = some (.slice B n c) ∧ Rd w B (f.getD x []) := by
  have h1 := ht.1
  obtain ⟨b, o, rfl, hb, hc⟩ := hr (by omega)
  refine ⟨b, o, rfl, hb, fun x hx => ?_⟩
  obtain ⟨B, c, h2, h3⟩ := hc x (by omega)
  rw [ht.rows x (by omega), hn] at h2
  exact ⟨B, c, h2, h3⟩

/-- What is asked of the function value: of each row, in each later world, it makes the row h x in memory of its own. -/
def RowFn (P : Program) (t : TypeId) (F : FuncId) (post : Array Value) (w : World) (n : Nat) (f : List (List Int)) (h : Nat → List Int) : Prop :=
  ∀ (W : World) (x : Nat) (B : Option Addr) (d : Nat), x < n → Below w.heap.size w W → Rd W B (f.getD x []) → Calls P F (#[.slice B n d] ++ post) W fun e w' => ∃ A' c', e = .returned (.slice A' (h x).length c') ∧ Below W.heap.size W w' ∧ Res t W.heap.size w' A' (h x)
end Go.Proofs.Ytbhlcfcmjildmaa
namespace Go.Proofs.Ytbhlcfcmjildmaa
open Go Go.RowKit
set_option maxHeartbeats 1000000

/-- Between the rounds: what has been written after x rows and y values of the next one. -/
def turnTo (rows : List (List Int)) (x y : Nat) : Nat → Nat → Int := fun a b => if b < x ∨ (b = x ∧ a < y) then (rows.getD b []).getD a 0 else 0

theorem turnTo_set (rows : List (List Int)) (x y : Nat) (v : Int) (hv : (rows.getD x []).getD y 0 = v) : ∀ a b, (if a = y ∧ b = x then v else turnTo rows x y a b) = turnTo rows x (y + 1) a b := by
  intro a b
  unfold turnTo
  by_cases h : a = y ∧ b = x
  · obtain ⟨rfl, rfl⟩ := h
    rw [if_pos ⟨rfl, rfl⟩, if_pos (.inr ⟨rfl, by omega⟩), hv]
  · rw [if_neg h]
    by_cases h2 : b < x ∨ (b = x ∧ a < y)
    · rw [if_pos h2, if_pos (by omega)]
    · rw [if_neg h2, if_neg (by omega)]

theorem turnTo_next (rows : List (List Int)) (x n : Nat) : ∀ a b, a < n → turnTo rows x n a b = turnTo rows (x + 1) 0 a b := by
  intro a b ha
  unfold turnTo
  by_cases h2 : b < x ∨ (b = x ∧ a < n)
  · rw [if_pos h2, if_pos (by omega)]
  · rw [if_neg h2, if_neg (by omega)]

theorem turnI_any (A : Option Addr) (n c : Nat) (rows : List (List Int)) (w : World) (hn : rows.length = n) (hb : n ≤ 1048576) (hbs : ∀ i, i < rows.length → (rows.getD i []).length = n) (hr : Rd2 w A rows) :
    Calls Try.prog 66 #[.slice A n c] w fun e w' => ∃ A' c', e = .returned (.slice A' n c') ∧ Below w.heap.size w w' ∧ Obj2 26 2 w.heap.size w'.heap.size w' A' (turnL rows) := by
  have HN := hide hn
  clear hn
  go_enter Try.func66, Try.ntmps66
  go_wp2_with fail
  refine (newTable_any n _ hb).mono ?_
  rintro e w1 ⟨rfl, hb1, htab, hsz⟩
  have HB1 := hide hb1
  have HT := hide htab
  have HS := hide hsz
  clear hb1 htab hsz
  go_wp2_with fail
  go_loopw [13] (fun i wr => ∃ x : Nat, x ≤ n ∧ i = .int .i64 x ∧ Below w.heap.size w wr ∧ TabF 26 2 wr w.heap.size (fun i => w.heap.size + 1 + i) n (turnTo rows x 0) ∧ wr.heap.size = w.heap.size + 1 + n) (fun i _ => n - (intOf i).toNat)
  case atStart => exact ⟨0, Nat.zero_le _, rfl, HB1.out, HT.out.congr (fun a b _ _ => by simp [turnTo]), HS.out⟩
  case round =>
    obtain ⟨x, hx, rfl, hbe, htab, hsz⟩ := hrel
    have HB := hide hbe
    have HT2 := hide htab
    have HS2 := hide hsz
    clear hbe htab hsz
    by_cases hlt : x < n
    · obtain ⟨b, o, rfl, hbw, hc⟩ := hr (by have := HN.out; omega)
      obtain ⟨Ax, cx, hcell, hrd⟩ := hc x (by have := HN.out; omega)
      have hl := hbs x (by have := HN.out; omega)
      obtain ⟨r, hx'⟩ : ∃ r, r = rows.getD x [] := ⟨_, rfl⟩
      rw [← hx'] at hcell hrd hl
      rw [hl] at hcell
      have HX := hide hx'
      have HL := hide hl
      have hcell' : wr.cell? ⟨b, o + x, none⟩ = some (.slice Ax n cx) := (HB.out.cell (p := ⟨b, o + x, none⟩) hbw).trans hcell
      have hrd' : Rd w Ax r := hrd
      clear hx' hc hl hcell hrd hbs
      have hltz : (x : Int) < n := by omega
      go_wp2_with fail
      obtain ⟨wo, rfl⟩ : ∃ wo : World, wo = wr := ⟨_, rfl⟩
      go_loopw [20] (fun i wi => ∃ y : Nat, y ≤ n ∧ i = .int .i64 y ∧ Below w.heap.size w wi ∧ TabF 26 2 wi w.heap.size (fun i => w.heap.size + 1 + i) n (turnTo rows x y) ∧ wi.heap.size = w.heap.size + 1 + n) (fun i _ => n - (intOf i).toNat)
      case atStart => exact ⟨0, Nat.zero_le _, rfl, HB.out, HT2.out, HS2.out⟩
      case round =>
        obtain ⟨y, hy, rfl, hbi, hti, hsi⟩ := hrel
        have HBI := hide hbi
        have HTI := hide hti
        have HSI := hide hsi
        clear hbi hti hsi
        by_cases hlty : y < n
        · obtain ⟨b2, o2, rfl, hbw2, hc2⟩ := hrd' (by have := HL.out; omega)
          have hv : wr.cell? ⟨b2, o2 + y, none⟩ = some (.int .i64 (r.getD y 0)) := (HBI.out.cell (p := ⟨b2, o2 + y, none⟩) hbw2).trans (hc2 y (by have := HL.out; omega))
          obtain ⟨z, hz⟩ : ∃ z, r.getD y 0 = z := ⟨_, rfl⟩
          rw [hz] at hv
          have HZ := hide hz
          obtain ⟨C, htop⟩ := HTI.out.top
          have ho : wr.cell? ⟨w.heap.size, y, none⟩ = some (.slice (some ⟨w.heap.size + 1 + y, 0, none⟩) n (C y)) := htop.cell hlty
          clear htop
          have hi1 : wr.cell? ⟨w.heap.size + 1 + y, x, none⟩ = some (.int .i64 (turnTo rows x y y x)) := (HTI.out.row y hlty).cell hlt
          obtain ⟨old, hold⟩ : ∃ q, turnTo rows x y y x = q := ⟨_, rfl⟩
          rw [hold] at hi1
          have hi2 : wr.frozen? ⟨w.heap.size + 1 + y, x, none⟩ = false := (HTI.out.row y hlty).frozen x
          clear hz hold hc2 hrd' hcell'
          have hltyz : (y : Int) < n := by omega
          go_wp2_with fail
          go_roundw
          case rel =>
            refine ⟨y + 1, by omega, by go_num, HBI.out.setCell (p := ⟨w.heap.size + 1 + y, x, none⟩) (by show w.heap.size ≤ w.heap.size + 1 + y; omega) _, ?_, by have := HSI.out; simpa [World.setCell] using this⟩
            refine (HTI.out.set y x z hlty).congr (fun a b _ _ => turnTo_set rows x y z ?_ a b)
            rw [← HX.out]
            exact HZ.out
          case measure => simp [intOf]; omega
        · have hyn : y = n := by omega
          subst hyn
          go_wp2_with fail
          go_roundw
          case rel => exact ⟨x + 1, by omega, by go_num, HBI.out, HTI.out.congr (fun a b ha _ => turnTo_next rows x y a b ha), HSI.out⟩
          case measure => simp [intOf]; omega
    · have hxn : x = n := by omega
      subst hxn
      go_wp2_with fail
      go_ret
      refine ⟨_, _, rfl, HB.out, ?_⟩
      have h := HT2.out.congr (f' := fun a b => (rows.getD b []).getD a 0) (fun a b _ hb => by simp [turnTo, hb])
      have e := HN.out
      unfold turnL
      rw [e]
      exact h.obj (Nat.le_refl _) (by have := HS2.out; omega) (fun i hi => by have := HS2.out; omega)
end Go.Proofs.Ytbhlcfcmjildmaa
namespace Go.Proofs.Ytbhlcfcmjildmaa
open Go Go.RowKit
theorem neInfo : (Try.prog.info? 2).map (fun i => (i.zero, i.size, i.bytes)) = some (some (.int .i64 0), 1, 8) := by kernel_rfl
theorem neInfo2 : (Try.prog.info? 26).map (fun i => (i.zero, i.size, i.bytes)) = some (some (.slice none 0 0), 1, 24) := by kernel_rfl
theorem ne_new {w : World} {v : Value} {t : TypeId} : ∀ j u, [v][j]? = some u → (w.alloc (.cells #[v] t)).cell? ((⟨w.heap.size, 0, none⟩ : Addr).add j) = some u := by
  intro j u hj
  match j, hj with
  | 0, hj => simp at hj; subst hj; simp [Addr.add, World.cell?_alloc_new]
theorem ne_empty (w : World) (t : TypeId) : (w.alloc (.cells #[] t)).ownsRow w.heap.size t 1 (.slice (some ⟨w.heap.size, 0, none⟩) 0 0) 0 [] :=
  ⟨by simp, .inr ⟨w.heap.size, 0, #[], rfl, Nat.le_refl _, heap_alloc_new _ _, Nat.le_refl _, by unfold maxLen; omega, by simp, by simp⟩⟩
/-- Row x of the table of a function. -/
def frow (n : Nat) (h : Nat → Nat → Int) (x : Nat) : List Int := (List.range n).map fun (b : Nat) => h x b
theorem frow_length (n : Nat) (h : Nat → Nat → Int) (x : Nat) : (frow n h x).length = n := by simp [frow]
theorem frow_take (n : Nat) (h : Nat → Nat → Int) (x y : Nat) (hy : y < n) : ints ((frow n h x).take y) ++ [.int .i64 (h x y)] = ints ((frow n h x).take (y + 1)) := by
  rw [List.take_succ_eq_append_getElem (by rw [frow_length]; exact hy)]
  simp [ints, frow]
theorem grid_take (n : Nat) (h : Nat → Nat → Int) (x : Nat) (hx : x < n) : (grid n h).take (x + 1) = (grid n h).take x ++ [frow n h x] := by
  rw [List.take_succ_eq_append_getElem (by rw [grid_length]; exact hx)]
  simp [grid, frow]
end Go.Proofs.Ytbhlcfcmjildmaa
namespace Go.Proofs.Ytbhlcfcmjildmaa
open Go Go.RowKit
/-! A range over an iterator with N elements, N maybe 0 (RgF.x's law, for K + 1 = N). -/
/-- What an iterator with N elements promises: T: what each round is told; L: the one block that it writes to between rounds. -/
def IterN (P : Program) (n : Nat) (gf : FuncId) (lb : Array Value) (N : Nat) (T : Nat → Nat → Array Value → (Nat → Prop) → World → Prop) (U0 : Nat → Prop) (w0 : World) : Prop :=
  ∀ (l : Nat) (J Jx : Nat → Nat → (Nat → Prop) → World → Prop) (W : World), Below w0.heap.size w0 W →
    (∀ k L U U' W W', J k L U W → StepL L W W' → (∀ b, U' b → U b ∨ W.heap.size ≤ b) → J k L U' W') →
    (∀ k L v U W, k < N → J k L U W → T k L v U W → YieldAt Fence.wide n P l v W fun e W' => (e = .returned (.bool true) ∧ J (k + 1) L U W' ∧ KeepU U W W') ∨ (e = .returned (.bool false) ∧ Jx (k + 1) L U W')) →
    (∀ L, W.heap.size ≤ L → J 0 L U0 W) →
    Calls P gf (#[.func (.yield l) #[] #[]] ++ lb) W fun e W' => (∃ v, e = .returned v) ∧ ((∃ L U, J N L U W') ∨ (∃ k L U, k < N ∧ Jx (k + 1) L U W'))
variable {P : Program} {n : Nat}
theorem wpIn_iterN {g : Operand} {ps : Array Tmp} {assign body : Code} {Q : Exit → Act → World → Prop} {a : Act} {w : World} {gf : FuncId} {lb : Array Value}
    (hg : a.eval g = .func (.func gf) #[] lb) (eg : ∀ args w, (callFunc gf args).run P w = .ok (.enter gf args) w)
    {N : Nat} {T : Nat → Nat → Array Value → (Nat → Prop) → World → Prop} {U0 : Nat → Prop} (hseq : IterN P n gf lb N T U0 w) (hps : ∀ k L v U W, T k L v U W → v.size = ps.size)
    (hT : ∀ k L v U W W', T k L v U W → KeepU U W W' → T k L v U W') (hU0 : ∀ b, U0 b → b < w.heap.size)
    (I : Nat → Nat → (Nat → Prop) → World → Prop) (Ix : Code → Nat → Nat → (Nat → Prop) → World → Prop)
    (hI : ∀ k L U U' W W', w.heap.size ≤ L → I k L U W → StepL L W W' → (∀ b, U' b → U b ∨ W.heap.size ≤ b) → I k L U' W')
    (hIp : ∀ k L U W b o o', w.heap.size ≤ b → b < w.heap.size + 2 → (∀ b, U b → b < w.heap.size ∨ w.heap.size + 2 ≤ b) → W.heap[b]? = some o → o.isCells = false → I k L U W → I k L U (W.putObj b o'))
    (hXp : ∀ c k L U W b o o', w.heap.size ≤ b → b < w.heap.size + 2 → W.heap[b]? = some o → o.isCells = false → Ix c k L U W → Ix c k L U (W.putObj b o'))
    (h0 : ∀ L, w.heap.size + 2 ≤ L → I 0 L U0 w) (Ax : Nat → Array Value → Act → World → Prop)
    (hAp : ∀ k v a' W b o o', w.heap.size ≤ b → W.heap[b]? = some o → o.isCells = false → Ax k v a' W → Ax k v a' (W.putObj b o'))
    (hassign : ∀ (l k L : Nat) (v : Array Value) (U : Nat → Prop) (W : World) (K' : Act → World → Prop), T k L v U W → w.heap.size + 2 ≤ W.heap.size → (∀ a' W', Below W.heap.size W W' → Ax k v a' W' → K' a' W') →
      assign.wpIn (Fence.wide.inRound l) n P (Exit.then K' (fun _ _ _ => False)) { tmps := (ps.zip v).foldl (fun t (p, v) => t.setIfInBounds p v) a.tmps, defers := [] } W)
    (hbody : ∀ (l k L : Nat) (v : Array Value) (U : Nat → Prop) (a' : Act) (W : World), k < N → w.heap.size + 2 ≤ L → (∀ b, U b → b < w.heap.size ∨ w.heap.size + 2 ≤ b) → I k L U W → T k L v U W → Ax k v a' W → w.heap.size + 2 ≤ W.heap.size → body.wpIn (Fence.wide.inRound l) n P (roundU w.heap.size I Ix k L U W) a' W)
    (hdone : ∀ (L : Nat) (U : Nat → Prop) (W : World), I N L U W → W.heap[w.heap.size]? = some (.deferred (some [])) → Q .normal { a with defers := { target := .collected w.heap.size, args := #[] } :: a.defers } W)
    (hstop : ∀ (c : Code) (k L : Nat) (U : Nat → Prop) (W : World), k < N → Ix c (k + 1) L U W → W.heap[w.heap.size]? = some (.deferred (some [])) → c.wpIn Fence.wide n P Q { a with defers := { target := .collected w.heap.size, args := #[] } :: a.defers } W) :
    (Code.rangeFunc g ps assign body).wpIn Fence.wide n P Q a w := by
  refine wpIn_rangeFunc fun fn hfn => ?_
  obtain ⟨D, hD⟩ : ∃ D, w.heap.size = D := ⟨_, rfl⟩
  obtain ⟨rec, hrec⟩ : ∃ rec : LoopState → Option Code → Loop, rec = fun st pe => { state := st, pending := pe, fn, tmps := a.tmps, params := ps, assign, body, defers := D } := ⟨_, rfl⟩
  have hD1 : ((w.alloc (.deferred (some []))).alloc (.loop (rec .ready none))).heap[D]? = some (.deferred (some [])) := by
    rw [← hD]
    exact (Below.heap_alloc _ _ _ (by simp)).trans (World.alloc_heap_new w _)
  have hL1 : ((w.alloc (.deferred (some []))).alloc (.loop (rec .ready none))).heap[D + 1]? = some (.loop (rec .ready none)) := by
    have h := World.alloc_heap_new (w.alloc (.deferred (some []))) (.loop (rec .ready none))
    rw [World.size_alloc, hD] at h
    exact h
  have hb1 : Below w.heap.size w ((w.alloc (.deferred (some []))).alloc (.loop (rec .ready none))) := ((Below.refl _ w).alloc (Nat.le_refl _) _).alloc (by simp) _
  obtain ⟨W1, hW1⟩ : ∃ W1, (w.alloc (.deferred (some []))).alloc (.loop (rec .ready none)) = W1 := ⟨_, rfl⟩
  rw [hW1] at hD1 hL1 hb1
  have hs1 := (Array.getElem?_eq_some_iff.1 hL1).1
  have hnl : ∀ st pe, Obj.isCells (.loop (rec st pe)) = false := fun _ _ => rfl
  refine ⟨D + 1, [{ target := .collected D, args := #[] }], W1, { target := .fn (.func gf) lb, args := #[.func (.yield (D + 1)) #[] #[]] }, W1, gf, #[.func (.yield (D + 1)) #[] #[]] ++ lb, W1, ?_, ?_, fun _ _ => trivial, ?_, (fun h => by cases h), ?_⟩
  · show (Instr.enterLoop fn a.tmps ps assign body none).run P w = _
    rw [run_enterLoop_outer, hD, ← hW1, hrec]
  · simp only [resolve, hg]
    simp [go_sem]
  · simp [invoke, go_sem, eg]
  · refine callsIn_wide.2 ((hseq (D + 1) (fun k L U W => (I k L U W ∧ (∀ b, U b → b < D ∨ D + 2 ≤ b) ∧ D + 2 ≤ L) ∧ W.heap[D + 1]? = some (.loop (rec .ready none)) ∧ W.heap[D]? = some (.deferred (some [])))
      (fun k L U W => ∃ c, Ix c k L U W ∧ W.heap[D + 1]? = some (.loop (rec .done (some c))) ∧ W.heap[D]? = some (.deferred (some []))) _ hb1 ?_ ?_ (fun L hL => ⟨⟨hI 0 L U0 U0 _ _ (by omega) (h0 L (by omega)) (StepL.of L hb1) (fun _ h => .inl h), fun b hb => .inl (by have := hU0 b hb; omega), by omega⟩, hL1, hD1⟩)).mono ?_)
    · rintro k L U U' W W' ⟨⟨hi, hu, hL⟩, hl, hd⟩ hb hs
      have l1 := (Array.getElem?_eq_some_iff.1 hl).1
      refine ⟨⟨hI k L U U' W W' (by omega) hi hb hs, fun b hb2 => ?_, hL⟩, (hb.same _ l1 (by omega)).trans hl, (hb.same _ (by omega) (by omega)).trans hd⟩
      rcases hs b hb2 with h | h
      · exact hu b h
      · exact .inr (by omega)
    · rintro k L v U W hk ⟨⟨hi, hu, hL⟩, hl, hd⟩ ht
      have l1 := (Array.getElem?_eq_some_iff.1 hl).1
      have hnU : ¬ U (D + 1) := fun h => by have := hu _ h; omega
      have hu' : ∀ b, U b → b < w.heap.size ∨ w.heap.size + 2 ≤ b := by rw [hD]; exact hu
      have hy := run_yield (P := P) (args := v) hl (by rw [hrec]; exact hps k L v U W ht)
      rw [hrec] at hy
      refine ⟨fn, _, assign, body, hy, roundIn_of_wpIn hfn (hassign _ k L v U W _ ht (by omega) fun a' Wa hba hax => ?_)⟩
      have hla := (hb_same hba l1).trans hl
      have hda := (hb_same hba (by omega : D < W.heap.size)).trans hd
      have hia := hI k L U U W Wa (by omega) hi (StepL.of L hba) (fun _ h => .inl h)
      have hta := hT k L v U W Wa ht (KeepU.below hba)
      have la := (Array.getElem?_eq_some_iff.1 hla).1
      obtain ⟨W2, hW2⟩ : ∃ W2, Wa.putObj (D + 1) (.loop (rec .busy none)) = W2 := ⟨_, rfl⟩
      refine ⟨W2, ?_, ?_⟩
      · have h := run_beginRound (P := P) hla (by rw [hrec])
        rw [← hW2, hrec] at *
        exact h
      have hl2 : W2.heap[D + 1]? = some (.loop (rec .busy none)) := by rw [← hW2]; exact World.putObj_heap_same la
      have hd2 : W2.heap[D]? = some (.deferred (some [])) := by rw [← hW2]; exact (World.putObj_heap_other (by omega)).trans hda
      have hi2 : I k L U W2 := by rw [← hW2]; exact hIp k L U Wa (D + 1) _ _ (by omega) (by omega) hu' hla (hnl _ _) hia
      have hku2 : KeepU U W W2 := by rw [← hW2]; exact (KeepU.below hba).trans (KeepU.put _ hnU)
      have ht2 : T k L v U W2 := hT k L v U W W2 ht hku2
      have hax2 : Ax k v a' W2 := by rw [← hW2]; exact hAp k v a' Wa (D + 1) _ _ (by omega) hla (hnl _ _) hax
      have l2 := (Array.getElem?_eq_some_iff.1 hl2).1
      refine wpIn_mono (hbody _ k L v U a' W2 hk (by omega) hu' hi2 ht2 hax2 (by omega)) ?_
      rw [hD]
      have fin : ∀ (j : Option Code) (W3 : World), KeepR D W2 W3 → (Instr.endRound (D + 1) j).run P W3 = .ok (.bool j.isNone) (W3.putObj (D + 1) (.loop (rec (if j.isNone then .ready else .done) j))) ∧ W3.heap[D + 1]? = some (.loop (rec .busy none)) ∧ (W3.putObj (D + 1) (.loop (rec (if j.isNone then .ready else .done) j))).heap[D + 1]? = some (.loop (rec (if j.isNone then .ready else .done) j)) ∧ (W3.putObj (D + 1) (.loop (rec (if j.isNone then .ready else .done) j))).heap[D]? = some (.deferred (some [])) := fun j W3 hr => by
        have hl3 := (hr.2 (D + 1) (by omega) (by omega)).trans hl2
        have hd3 := (hr.2 D (by omega) (by omega)).trans hd2
        refine ⟨?_, hl3, World.putObj_heap_same (Array.getElem?_eq_some_iff.1 hl3).1, (World.putObj_heap_other (by omega)).trans hd3⟩
        have h := run_endRound (P := P) j hl3
        rw [hrec] at h ⊢
        exact h
      have leave : ∀ (c : Code) (W3 : World), KeepR D W2 W3 → Ix c (k + 1) L U W3 → ∃ v w', (Instr.endRound (D + 1) (some c)).run P W3 = .ok v w' ∧ (((Ending.returned v) = .returned (.bool true) ∧ ((I (k + 1) L U w' ∧ (∀ b, U b → b < D ∨ D + 2 ≤ b) ∧ D + 2 ≤ L) ∧ w'.heap[D + 1]? = some (.loop (rec .ready none)) ∧ w'.heap[D]? = some (.deferred (some []))) ∧ KeepU U W w') ∨ ((Ending.returned v) = .returned (.bool false) ∧ ∃ c, Ix c (k + 1) L U w' ∧ w'.heap[D + 1]? = some (.loop (rec .done (some c))) ∧ w'.heap[D]? = some (.deferred (some [])))) := fun c W3 hr hx => by
        obtain ⟨h1, h2, h3, h4⟩ := fin (some c) W3 hr
        exact ⟨_, _, h1, .inr ⟨rfl, c, hXp c (k + 1) L U W3 (D + 1) _ _ (by omega) (by omega) h2 (hnl _ _) hx, h3, h4⟩⟩
      rintro e a3 W3 hp
      cases e with
      | normal =>
        obtain ⟨hr, hku, hi3⟩ := hp
        obtain ⟨h1, h2, h3, h4⟩ := fin none W3 hr
        exact ⟨_, _, h1, .inl ⟨rfl, ⟨⟨hIp (k + 1) L U W3 (D + 1) _ _ (by omega) (by omega) hu' h2 (hnl _ _) hi3, hu, hL⟩, h3, h4⟩, (hku2.trans hku).trans (KeepU.put _ hnU)⟩⟩
      | ret => exact leave .ret W3 hp.1 hp.2
      | exit id => exact leave (.exit id) W3 hp.1 hp.2
      | goto t => exact leave (.goto t) W3 hp.1 hp.2
      | panic ch => exact hp.elim
      | outgrown => exact hp.elim
    · rintro e W2 ⟨⟨v, rfl⟩, (⟨L, U, ⟨hi, hu, _⟩, hl, hd⟩ | ⟨k, L, U, hk, c, hx, hl, hd⟩)⟩
      · refine ⟨none, W2.putObj (D + 1) (.loop { rec .ready none with state := .exhausted }), ?_, ?_⟩
        · have h := run_endLoop (P := P) hl (by rw [hrec]; simp)
          rw [hrec] at h ⊢
          exact h
        · have h := hdone L U _ (hIp N L U W2 (D + 1) _ (.loop { rec .ready none with state := .exhausted }) (by omega) (by omega) (by rw [hD]; exact hu) hl (hnl _ _) hi) (by rw [hD]; exact (World.putObj_heap_other (by omega)).trans hd)
          rw [hD] at h
          exact h
      · refine ⟨some c, W2.putObj (D + 1) (.loop { rec .done (some c) with state := .exhausted }), ?_, ?_⟩
        · have h := run_endLoop (P := P) hl (by rw [hrec]; simp)
          rw [hrec] at h ⊢
          exact h
        · have h := hstop c k L U _ hk (hXp c (k + 1) L U W2 (D + 1) _ (.loop { rec .done (some c) with state := .exhausted }) (by omega) (by omega) hl (hnl _ _) hx) (by rw [hD]; exact (World.putObj_heap_other (by omega)).trans hd)
          rw [hD] at h
          exact h
end Go.Proofs.Ytbhlcfcmjildmaa
