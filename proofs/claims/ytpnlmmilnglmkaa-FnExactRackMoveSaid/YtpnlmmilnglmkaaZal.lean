import Derived.Test.YtpnlmmilnglmkaaZag
import Derived.Test.YtpnlmmilnglmkaaZm
import Derived.Test.YtpnlmmilnglmkaaZah
import Derived.Test.YtpnlmmilnglmkaaZak
import Derived.Test.YtpnlmmilnglmkaaZc
import Derived.Test.YtpnlmmilnglmkaaZe
import Derived.Test.YtpnlmmilnglmkaaZk
import Derived.Test.YtpnlmmilnglmkaaZj
import Derived.Test.YtpnlmmilnglmkaaZg
import Derived.Test.YtpnlmmilnglmkaaZd
namespace Go.Proofs.Ytpnlmmilnglmkaa
open Go Go.RowKit
/-- Where a list of numbers leads a number. -/
def pq (p : List Int) (x : Nat) : Nat := (p.getD x 0).toNat
/-- A permutation of the elements that keeps the table. -/
def AutF (f : List (List Int)) (p : List Int) : Prop := ∀ x y, x < f.length → y < f.length → ap f (pq p x) (pq p y) = pq p (ap f x y)
theorem pq_eq {p : List Int} (h : Prm p) {x : Nat} (hx : x < p.length) : p.getD x 0 = (pq p x : Int) ∧ pq p x < p.length := by
  have := prm_at h hx
  unfold pq
  omega
theorem pq_inj {p : List Int} (h : Prm p) {x y : Nat} (hx : x < p.length) (hy : y < p.length) (e : pq p x = pq p y) : x = y := by
  apply prm_inj h hx hy
  rw [(pq_eq h hx).1, (pq_eq h hy).1, e]
theorem pq_sur {p : List Int} (h : Prm p) {a : Nat} (ha : a < p.length) : ∃ x, x < p.length ∧ pq p x = a := by
  have hm : (a : Int) ∈ p := ((prm_iff _).1 h).2.2 a (by omega) (by omega)
  obtain ⟨x, hx, e⟩ := List.getElem_of_mem hm
  refine ⟨x, hx, ?_⟩
  have : p.getD x 0 = (a : Int) := by rw [← e]; simp [hx]
  unfold pq
  rw [this]
  simp
theorem auRow_hit {rows : List (List Int)} {p : List Int} (h : Prm p) (x0 y0 : Nat) (hy0 : y0 < p.length) (f : Nat → Nat → Int) : ∀ y, y ≤ p.length → y0 < y → renRow rows p x0 y f (pq p x0) (pq p y0) = p.getD ((rows.getD x0 []).getD y0 0).toNat 0 := by
  intro y
  induction y with
  | zero => intro _ h0; omega
  | succ y ih =>
    intro hy h0
    show (if pq p x0 = (p.getD x0 0).toNat ∧ pq p y0 = (p.getD y 0).toNat then _ else _) = _
    by_cases e : y0 = y
    · subst e
      rw [if_pos ⟨rfl, rfl⟩]
    · rw [if_neg (fun hh => e (pq_inj h hy0 (by omega) hh.2))]
      exact ih (by omega) (by omega)
theorem auRow_miss {rows : List (List Int)} {p : List Int} (x : Nat) (f : Nat → Nat → Int) (a b : Nat) (ha : a ≠ pq p x) : ∀ y, renRow rows p x y f a b = f a b := by
  intro y
  induction y with
  | zero => rfl
  | succ y ih =>
    show (if a = (p.getD x 0).toNat ∧ b = (p.getD y 0).toNat then _ else _) = _
    rw [if_neg (fun hh => ha hh.1)]
    exact ih
theorem auTo_hit {rows : List (List Int)} {p : List Int} (h : Prm p) {n : Nat} (hn : p.length = n) (x0 y0 : Nat) (hx0 : x0 < n) (hy0 : y0 < n) (f : Nat → Nat → Int) : ∀ k, k ≤ n → x0 < k → renTo rows p n k f (pq p x0) (pq p y0) = p.getD ((rows.getD x0 []).getD y0 0).toNat 0 := by
  intro k
  induction k with
  | zero => intro _ h0; omega
  | succ k ih =>
    intro hk h0
    show renRow rows p k n (renTo rows p n k f) _ _ = _
    by_cases e : x0 = k
    · subst e
      exact auRow_hit h x0 y0 (by omega) _ n (by omega) (by omega)
    · rw [auRow_miss k _ _ _ (fun hh => e (pq_inj h (by omega) (by omega) hh))]
      exact ih (by omega) (by omega)
theorem aut_iff {f : List (List Int)} {p : List Int} (ht : Tbl f) (h : Prm p) {n : Nat} (hn : f.length = n) (hm : p.length = n) (g : Nat → Nat → Int) : grid n (renTo f p n n g) = f ↔ AutF f p := by
  constructor
  · intro e x y hx hy
    rw [hn] at hx hy
    have h1 := auTo_hit (rows := f) h hm x y hx hy g n (Nat.le_refl _) hx
    have hX := (pq_eq h (x := x) (by omega)).2
    have hY := (pq_eq h (x := y) (by omega)).2
    have h2 := grid_at n (renTo f p n n g) (pq p x) (pq p y) (by omega) (by omega)
    rw [e, h1] at h2
    unfold ap
    rw [h2]
    rfl
  · intro ha
    rw [← grid_self f n hn (fun i hi => ht.row_len hn hi)]
    rw [show grid n (renTo (grid n fun a b => (f.getD a []).getD b 0) p n n g) = grid n (renTo f p n n g) from by rw [grid_self f n hn (fun i hi => ht.row_len hn hi)]]
    refine grid_congr n _ _ (fun a b h1 h2 => ?_)
    obtain ⟨x, hx, rfl⟩ := pq_sur h (a := a) (by omega)
    obtain ⟨y, hy, rfl⟩ := pq_sur h (a := b) (by omega)
    rw [hm] at hx hy
    rw [auTo_hit h hm x y hx hy g n (Nat.le_refl _) hx]
    have e := ha x y (by omega) (by omega)
    have hlt := ht.ap_lt hn hx hy
    rw [ht.ap_eq hn h1 h2, e]
    exact (pq_eq h (x := ap f x y) (by omega)).1
end Go.Proofs.Ytpnlmmilnglmkaa
namespace Go.Proofs.Ytpnlmmilnglmkaa
open Go Go.RowKit
set_option maxHeartbeats 2000000
/-- Whether three elements show that a table is no rack's. -/
def rkq (f : List (List Int)) : Nat → Nat → Nat → Bool := fun x y z => !decide (ap f x (ap f y z) = ap f (ap f x y) (ap f x z))
theorem rkq_not (f : List (List Int)) (n i : Nat) : qAt (rkq f) n i = false ↔ Rk3 f n i := by
  unfold qAt rkq Rk3
  simp
theorem rkq_is (f : List (List Int)) (n i : Nat) : qAt (rkq f) n i = true ↔ ¬ Rk3 f n i := by
  rw [← rkq_not]
  simp
theorem FirstK.q {f : List (List Int)} {n T : Nat} (h : FirstK f n T) : FirstQ (rkq f) n T :=
  ⟨fun i hi => (rkq_not f n i).2 (h.1 i hi), h.2.1, fun ht => (rkq_is f n T).2 (h.2.2 ht)⟩

set_option maxRecDepth 100000 in
theorem kfC_any (A : Option Addr) (n c : Nat) (f : List (List Int)) (b : Nat) (w : World) (hn : f.length = n) (ht : Tbl f) (hr : Rd2 w A f) (hk : Blk w b 27 [.slice A n c]) :
    BoolFn3 Try.prog 148 #[.pointer (some ⟨b, 0, none⟩)] n (rkq f) w := by
  intro W x y z hx hy hz hb
  have HR := hide (hr.later hb)
  have HKc := hide (hk.later hb)
  have HBc := hide (Below.refl W.heap.size W)
  have HN := hide hn
  have HTB := hide ht
  show Calls Try.prog 148 #[.int .i64 x, .int .i64 y, .int .i64 z, .pointer (some ⟨b, 0, none⟩)] W _
  clear hn ht hr hk hb
  have hq1 := HTB.out.ap_lt HN.out hy hz
  have hq2 := HTB.out.ap_lt HN.out hx hy
  have hq3 := HTB.out.ap_lt HN.out hx hz
  obtain ⟨bq, hat⟩ : ∃ bq, rkq f x y z = bq := ⟨_, rfl⟩
  rw [hat]
  unfold rkq at hat
  obtain ⟨q1, h_1⟩ : ∃ u, ap f y z = u := ⟨_, rfl⟩
  obtain ⟨q2, h_2⟩ : ∃ u, ap f x y = u := ⟨_, rfl⟩
  obtain ⟨q3, h_3⟩ : ∃ u, ap f x z = u := ⟨_, rfl⟩
  rw [h_1, h_2, h_3] at hat
  rw [h_1] at hq1
  rw [h_2] at hq2
  rw [h_3] at hq3
  obtain ⟨q4, h_4⟩ : ∃ u, ap f x q1 = u := ⟨_, rfl⟩
  obtain ⟨q5, h_5⟩ : ∃ u, ap f q2 q3 = u := ⟨_, rfl⟩
  rw [h_4, h_5] at hat
  have HAT : Hid ((!decide (q4 = q5)) = bq) := hide hat
  have U1 := hide h_1
  have U2 := hide h_2
  have U3 := hide h_3
  have U4 := hide h_4
  have U5 := hide h_5
  clear h_1 h_2 h_3 h_4 h_5 hat
  have k0 := HKc.out.cell 0 _ rfl
  have tok0 : True := trivial
  have tok1 : True := trivial
  have tok2 : True := trivial
  have tok3 : True := trivial
  go_enter Try.func148, Try.ntmps148
  by_cases hcs : q4 = q5
  · have hbq : bq = false := by rw [← HAT.out, hcs]; simp
    subst hcs
    subst hbq
    go_wp2_with fail
    go_region_held3 (fun w' => w'.cell? ⟨b, 0, none⟩ = some (.slice A n c)) (first | exact k0 | go_keep) (first | (go_at_call 90; have _t := tok0; clear _t tok0; go_must (refine calls_gen fun wc hwc => ?_; (first | have hbx := drew_below hwc | have hbx := eq_below hwc); replace HBc := hide (HBc.out.trans (hbx.mono HBc.out.size)); replace HKc := hide (HKc.out.later hbx); clear hwc hbx; refine (act_any _ _ _ f y z q1 _ HN.out HTB.out (HR.out.later HBc.out) hy hz U1.out).mono ?_; rintro e wd ⟨rfl, hbd⟩; replace HBc := hide (HBc.out.trans (hbd.mono HBc.out.size)); replace HKc := hide (HKc.out.later hbd); clear hbd; have k0 := HKc.out.cell 0 _ rfl)) | (go_at_call 90; have _t := tok1; clear _t tok1; go_must (refine calls_gen fun wc hwc => ?_; (first | have hbx := drew_below hwc | have hbx := eq_below hwc); replace HBc := hide (HBc.out.trans (hbx.mono HBc.out.size)); replace HKc := hide (HKc.out.later hbx); clear hwc hbx; refine (act_any _ _ _ f x q1 q4 _ HN.out HTB.out (HR.out.later HBc.out) hx hq1 U4.out).mono ?_; rintro e wd ⟨rfl, hbd⟩; replace HBc := hide (HBc.out.trans (hbd.mono HBc.out.size)); replace HKc := hide (HKc.out.later hbd); clear hbd; have k0 := HKc.out.cell 0 _ rfl)) | (go_at_call 90; have _t := tok2; clear _t tok2; go_must (refine calls_gen fun wc hwc => ?_; (first | have hbx := drew_below hwc | have hbx := eq_below hwc); replace HBc := hide (HBc.out.trans (hbx.mono HBc.out.size)); replace HKc := hide (HKc.out.later hbx); clear hwc hbx; refine (act_any _ _ _ f x y q2 _ HN.out HTB.out (HR.out.later HBc.out) hx hy U2.out).mono ?_; rintro e wd ⟨rfl, hbd⟩; replace HBc := hide (HBc.out.trans (hbd.mono HBc.out.size)); replace HKc := hide (HKc.out.later hbd); clear hbd; have k0 := HKc.out.cell 0 _ rfl)) | (go_at_call 90; have _t := tok3; clear _t tok3; go_must (refine calls_gen fun wc hwc => ?_; (first | have hbx := drew_below hwc | have hbx := eq_below hwc); replace HBc := hide (HBc.out.trans (hbx.mono HBc.out.size)); replace HKc := hide (HKc.out.later hbx); clear hwc hbx; refine (act_any _ _ _ f x z q3 _ HN.out HTB.out (HR.out.later HBc.out) hx hz U3.out).mono ?_; rintro e wd ⟨rfl, hbd⟩; replace HBc := hide (HBc.out.trans (hbd.mono HBc.out.size)); replace HKc := hide (HKc.out.later hbd); clear hbd; have k0 := HKc.out.cell 0 _ rfl)) | (go_at_call 90; go_must (refine calls_gen fun wc hwc => ?_; (first | have hbx := drew_below hwc | have hbx := eq_below hwc); replace HBc := hide (HBc.out.trans (hbx.mono HBc.out.size)); replace HKc := hide (HKc.out.later hbx); clear hwc hbx; refine (act_any _ _ _ f q2 q3 q4 _ HN.out HTB.out (HR.out.later HBc.out) hq2 hq3 U5.out).mono ?_; rintro e wd ⟨rfl, hbd⟩; replace HBc := hide (HBc.out.trans (hbd.mono HBc.out.size)); replace HKc := hide (HKc.out.later hbd); clear hbd; have k0 := HKc.out.cell 0 _ rfl)))
    go_wp2_with fail
    go_ret
    exact ⟨rfl, HBc.out⟩
  · have hbq : bq = true := by rw [← HAT.out]; simp [hcs]
    have hcz : ((q4 : Int) != (q5 : Int)) = true := by rw [bne_iff_ne]; omega
    subst hbq
    go_wp2_with fail
    go_region_held3 (fun w' => w'.cell? ⟨b, 0, none⟩ = some (.slice A n c)) (first | exact k0 | go_keep) (first | (go_at_call 90; have _t := tok0; clear _t tok0; go_must (refine calls_gen fun wc hwc => ?_; (first | have hbx := drew_below hwc | have hbx := eq_below hwc); replace HBc := hide (HBc.out.trans (hbx.mono HBc.out.size)); replace HKc := hide (HKc.out.later hbx); clear hwc hbx; refine (act_any _ _ _ f y z q1 _ HN.out HTB.out (HR.out.later HBc.out) hy hz U1.out).mono ?_; rintro e wd ⟨rfl, hbd⟩; replace HBc := hide (HBc.out.trans (hbd.mono HBc.out.size)); replace HKc := hide (HKc.out.later hbd); clear hbd; have k0 := HKc.out.cell 0 _ rfl)) | (go_at_call 90; have _t := tok1; clear _t tok1; go_must (refine calls_gen fun wc hwc => ?_; (first | have hbx := drew_below hwc | have hbx := eq_below hwc); replace HBc := hide (HBc.out.trans (hbx.mono HBc.out.size)); replace HKc := hide (HKc.out.later hbx); clear hwc hbx; refine (act_any _ _ _ f x q1 q4 _ HN.out HTB.out (HR.out.later HBc.out) hx hq1 U4.out).mono ?_; rintro e wd ⟨rfl, hbd⟩; replace HBc := hide (HBc.out.trans (hbd.mono HBc.out.size)); replace HKc := hide (HKc.out.later hbd); clear hbd; have k0 := HKc.out.cell 0 _ rfl)) | (go_at_call 90; have _t := tok2; clear _t tok2; go_must (refine calls_gen fun wc hwc => ?_; (first | have hbx := drew_below hwc | have hbx := eq_below hwc); replace HBc := hide (HBc.out.trans (hbx.mono HBc.out.size)); replace HKc := hide (HKc.out.later hbx); clear hwc hbx; refine (act_any _ _ _ f x y q2 _ HN.out HTB.out (HR.out.later HBc.out) hx hy U2.out).mono ?_; rintro e wd ⟨rfl, hbd⟩; replace HBc := hide (HBc.out.trans (hbd.mono HBc.out.size)); replace HKc := hide (HKc.out.later hbd); clear hbd; have k0 := HKc.out.cell 0 _ rfl)) | (go_at_call 90; have _t := tok3; clear _t tok3; go_must (refine calls_gen fun wc hwc => ?_; (first | have hbx := drew_below hwc | have hbx := eq_below hwc); replace HBc := hide (HBc.out.trans (hbx.mono HBc.out.size)); replace HKc := hide (HKc.out.later hbx); clear hwc hbx; refine (act_any _ _ _ f x z q3 _ HN.out HTB.out (HR.out.later HBc.out) hx hz U3.out).mono ?_; rintro e wd ⟨rfl, hbd⟩; replace HBc := hide (HBc.out.trans (hbd.mono HBc.out.size)); replace HKc := hide (HKc.out.later hbd); clear hbd; have k0 := HKc.out.cell 0 _ rfl)) | (go_at_call 90; go_must (refine calls_gen fun wc hwc => ?_; (first | have hbx := drew_below hwc | have hbx := eq_below hwc); replace HBc := hide (HBc.out.trans (hbx.mono HBc.out.size)); replace HKc := hide (HKc.out.later hbx); clear hwc hbx; refine (act_any _ _ _ f q2 q3 q5 _ HN.out HTB.out (HR.out.later HBc.out) hq2 hq3 U5.out).mono ?_; rintro e wd ⟨rfl, hbd⟩; replace HBc := hide (HBc.out.trans (hbd.mono HBc.out.size)); replace HKc := hide (HKc.out.later hbd); clear hbd; have k0 := HKc.out.cell 0 _ rfl)))
    go_wp2_with fail
    go_ret
    exact ⟨rfl, HBc.out⟩

set_option maxRecDepth 100000 in
theorem kfaultQ_any (A : Option Addr) (n c : Nat) (f : List (List Int)) (T : Nat) (w : World) (hn : f.length = n) (ht : Tbl f) (hr : Rd2 w A f) (hT : FirstQ (rkq f) n T) :
    Calls Try.prog 128 #[.agg #[.slice A n c]] w fun e w' => (T = n * n * n ∧ e = .returned (.slice none 0 0) ∧ Below w.heap.size w w') ∨ (T < n * n * n ∧ ∃ g, e = .returned (.slice (some ⟨g, 0, none⟩) 3 3) ∧ Below w.heap.size w w' ∧ w.heap.size ≤ g ∧ OwnB 2 w' g (lst3 (trip n T))) := by
  have h1 : 1 ≤ n := by rw [← hn]; exact ht.1
  have h12 : n ≤ 12 := by rw [← hn]; exact ht.2.1
  have HN := hide hn
  have HTB := hide ht
  have HR := hide hr
  have HT := hide hT
  have HB0 := hide ((Below.refl _ w).alloc (Nat.le_refl _) (Obj.cells #[Value.slice A n c] 27))
  have HK0 := hide (Blk.new w 27 [.slice A n c])
  clear hn ht hr hT
  go_enter Try.func128, Try.ntmps128
  go_wp2_with fail
  refine (ksize_any _ _ _ _ (by omega)).mono ?_
  rintro e w2 ⟨rfl, hb2⟩
  have HB2 := hide (HB0.out.trans (hb2.mono HB0.out.size))
  have HK2 := hide (HK0.out.later hb2)
  clear hb2
  go_wp2_with fail
  refine (firstTriple_any 148 _ n (rkq f) T _ (fun _ _ => rfl) h1 h12 (kfC_any A n c f w.heap.size _ HN.out HTB.out (HR.out.later HB2.out) HK2.out) HT.out).mono ?_
  rintro e w3 (⟨hTe, rfl, hb3⟩ | ⟨hTl, g, rfl, hb3, hg, hob⟩)
  · have HB3 := hide (HB2.out.trans (hb3.mono HB2.out.size))
    clear hb3
    go_wp2_with fail
    go_ret
    exact .inl ⟨hTe, rfl, HB3.out⟩
  · have HB3 := hide (HB2.out.trans (hb3.mono HB2.out.size))
    have HO3 := hide hob
    have hlo : w.heap.size ≤ g := by have := HB2.out.size; omega
    clear hb3 hob
    go_wp2_with fail
    go_ret
    exact .inr ⟨hTl, _, rfl, HB3.out, hlo, HO3.out⟩

theorem kfault_any (A : Option Addr) (n c : Nat) (f : List (List Int)) (T : Nat) (w : World) (hn : f.length = n) (ht : Tbl f) (hr : Rd2 w A f) (hT : FirstK f n T) :
    Calls Try.prog 128 #[.agg #[.slice A n c]] w fun e w' => (T = n * n * n ∧ e = .returned (.slice none 0 0) ∧ Below w.heap.size w w') ∨ (T < n * n * n ∧ ∃ g, e = .returned (.slice (some ⟨g, 0, none⟩) 3 3) ∧ Below w.heap.size w w' ∧ w.heap.size ≤ g ∧ OwnB 2 w' g (lst3 (trip n T))) :=
  kfaultQ_any A n c f T w hn ht hr hT.q
end Go.Proofs.Ytpnlmmilnglmkaa
namespace Go.Proofs.Ytpnlmmilnglmkaa
open Go Go.RowKit
set_option maxHeartbeats 2000000

theorem okInfo2 : (Try.prog.info? 37).map (fun i => (i.zero, i.size, i.bytes)) = some (some (.slice none 0 0), 1, 24) := by kernel_rfl

theorem ownk_any (A : Option Addr) (n c : Nat) (rows : List (List Int)) (w : World)
    (hn : rows.length = n) (h1 : 1 ≤ n) (hb : n ≤ 1048576) (hbs : ∀ i, i < rows.length → (rows.getD i []).length = n) (hr : Rd2 w A rows) :
    Calls Try.prog 92 #[.slice A n c] w fun e w' => ∃ A' c', e = .returned (.slice A' n c') ∧ Below w.heap.size w w' ∧ Obj2 37 2 w.heap.size w'.heap.size w' A' rows := by
  have HN := hide hn
  clear hn
  obtain ⟨i0, hi, hz0, hz1, hz2⟩ := info_parts okInfo2
  go_enter Try.func92, Try.ntmps92
  go_wp2_with fail
  go_loopw [3, 4] (fun v i wr => ∃ (k : Nat) (vals : List Value), k ≤ n ∧ i = .int .i64 k ∧ Below w.heap.size w wr ∧ LstV 37 2 w.heap.size wr v (rows.take k) vals ∧ w.heap.size ≤ wr.heap.size) (fun _ i _ => n - (intOf i).toNat)
  case atStart => exact ⟨0, [], Nat.zero_le _, rfl, (Below.refl _ _).alloc (Nat.le_refl _) _, by simpa using LstV.start w _ _, by simp⟩
  case round =>
    obtain ⟨k, vals, hk, rfl, hbe, hlst, hsz⟩ := hrel
    have HB := hide hbe
    have HL := hide hlst
    clear hbe hlst
    by_cases hlt : k < n
    · have hltz : (k : Int) < n := by omega
      obtain ⟨b, o, rfl, hbw, hc⟩ := hr (by have := HN.out; omega)
      obtain ⟨Ax, cx, hcell, hrd⟩ := hc k (by have := HN.out; omega)
      have hl := hbs k (by have := HN.out; omega)
      obtain ⟨r, hx'⟩ : ∃ r, r = rows.getD k [] := ⟨_, rfl⟩
      rw [← hx'] at hcell hrd hl
      rw [hl] at hcell
      have hcell' : wr.cell? ⟨b, o + k, none⟩ = some (.slice Ax n cx) := (HB.out.cell (p := ⟨b, o + k, none⟩) hbw).trans hcell
      have HX := hide hx'
      have HLL := hide hl
      obtain ⟨b2, o2, rfl, hbw2, hc2⟩ := hrd (by have := HLL.out; omega)
      have HC2 := hide hc2
      clear hx' hc hl hcell hbs hc2 hrd
      go_wp2_with fail
      refine (own_any b2 o2 n cx r _ HLL.out hb (by have := HB.out.size; omega) (fun i hi => (HB.out.cell (p := ⟨b2, o2 + i, none⟩) hbw2).trans (HC2.out i hi))).mono ?_
      rintro e w2 ⟨v2, rfl, hb2, how2⟩
      have HB2 := hide hb2
      have HOW2 := hide how2
      clear hb2 how2
      obtain ⟨A4, c4, hv4, hres4⟩ := own_shape HOW2.out
      rw [← HLL.out] at hv4
      subst hv4
      have HR4 := hide hres4.obj
      have hs4 := HB2.out.size
      have hlen : (ints r).length = n := by rw [ints_length]; exact HLL.out
      clear hres4
      have hlt0 : (rows.take k).length = k := by have := HN.out; simp; omega
      have HLT := hide hlt0
      have hown : w2.ownsRow w.heap.size 37 1 u3 k vals := by have := (HL.out.later HB2.out).own; rwa [hlt0] at this
      have HO := hide hown
      clear hown hlt0 hlen
      go_wp2_with (at_builtin; refine wpList_append_own _ rfl _ _ 22 rfl w.heap.size 37 i0 (.slice none 0 0) 1 24 Try.underlying22 hi hz0 hz1 hz2 rfl (by decide) _ _ _ rfl (HO.out.alloc _) ⟨w2.heap.size, 0, none⟩ 1 1 [.slice A4 r.length c4] rfl rfl ?c1 ?c2 ?c3 ?c4 ?c5 ?_)
      case c1 => exact kq_new
      case c2 => intro u hu; simp at hu; subst hu; rfl
      case c3 => unfold maxLen; omega
      case c4 => omega
      case c5 => simp; omega
      intro v' w3 hown' hgrow _
      have HO' := hide hown'
      have HG := hide hgrow
      clear hown' hgrow
      go_wp2_with fail
      go_roundw
      case rel =>
        have hB3 : Below w.heap.size w w3 := ((HB.out.trans (HB2.out.mono hsz)).alloc (by omega) _).grown HG.out (by simp; omega) (fun g hg => ((HO.out.alloc (.cells #[.slice A4 r.length c4] 37)).lt g hg).1)
        have hpush := LstV.push (tmp := .cells #[.slice A4 r.length c4] 37) (A := A4) (c := c4) (r := r) (w1 := w3) (v' := v') (by decide) hsz HL.out HB2.out HR4.out (by rw [HLT.out]; exact HO'.out) HG.out
        have e : rows.take (k + 1) = rows.take k ++ [r] := by
          have hl : k < rows.length := by have := HN.out; omega
          rw [List.take_succ_eq_append_getElem hl, HX.out]
          simp [hl]
        refine ⟨k + 1, vals ++ [.slice A4 r.length c4], by omega, by go_num, hB3, by rw [e]; exact hpush, by have := hB3.size; omega⟩
      case measure => simp [intOf]; omega
    · have hkn : k = n := by omega
      subst hkn
      go_wp2_with fail
      go_ret
      obtain ⟨A', c', hv, hobj⟩ := HL.out.shape
      have e : rows.take k = rows := List.take_of_length_le (by have := HN.out; omega)
      rw [e] at hv hobj
      exact ⟨A', c', by rw [← HN.out, ← hv]; rfl, HB.out, hobj⟩
end Go.Proofs.Ytpnlmmilnglmkaa
namespace Go.Proofs.Ytpnlmmilnglmkaa
open Go Go.RowKit
set_option maxHeartbeats 2000000

set_option maxRecDepth 100000 in
theorem isRackS (A : Option Addr) (n c : Nat) (f : List (List Int)) (r : Bool) (w : World) (hn : f.length = n) (hb : n ≤ 1048576) (hbs : ∀ i, i < f.length → (f.getD i []).length ≤ 1048576) (hr : Rd2 w A f) (hres : RkRes f r) :
    Calls Try.prog 70 #[.agg #[.slice A n c]] w fun e w' => e = .returned (.bool r) ∧ Below w.heap.size w w' := by
  have HN := hide hn
  have HBS := hide hbs
  have HRD := hide hr
  have HR := hide hres
  have HB0 := hide ((Below.refl _ w).alloc (Nat.le_refl _) (Obj.cells #[Value.slice A n c] 27))
  have HK0 := hide (Blk.new w 27 [.slice A n c])
  by_cases ht : Tbl f
  · have HTB := hide ht
    obtain ⟨T, hT⟩ := FirstK.ex f n
    have HT := hide hT
    clear hn hbs hr hres ht hT
    go_enter Try.func70, Try.ntmps70
    go_wp2_with fail
    refine (l01Table_any _ _ _ f true _ HN.out (by omega) (fun i hi => by have := HBS.out i hi; omega) (HRD.out.later HB0.out) (by simp [HTB.out])).mono ?_
    rintro e w1 ⟨rfl, hq1⟩
    have HB1 := hide (HB0.out.trans (hq1.below _))
    have HK1 := hide (HK0.out.later (hq1.below _))
    clear hq1
    go_wp2_with fail
    go_loopw [3] (fun i wr => ∃ k : Nat, k ≤ n ∧ i = .int .i64 k ∧ Below w.heap.size w wr ∧ Blk wr w.heap.size 27 [.slice A n c] ∧ ∀ i, i < k → Prm (f.getD i [])) (fun i _ => n - (intOf i).toNat)
    case atStart => exact ⟨0, Nat.zero_le _, rfl, HB1.out, HK1.out, fun i hi => absurd hi (Nat.not_lt_zero _)⟩
    case round =>
      obtain ⟨k, hk, rfl, hbe, hkk, hall⟩ := hrel
      have HB := hide hbe
      have HK := hide hkk
      have HALL := hide hall
      clear hbe hkk hall
      have k0 := HK.out.cell 0 _ rfl
      by_cases hlt : k < n
      · obtain ⟨b, o, hA, _, hc⟩ := (HRD.out.later HB.out) (by have := HN.out; omega)
        obtain ⟨Ak, ck, hcell, hrd⟩ := hc k (by have := HN.out; omega)
        have hbk := HBS.out k (by have := HN.out; omega)
        obtain ⟨x, hx⟩ : ∃ x, x = f.getD k [] := ⟨_, rfl⟩
        obtain ⟨m, hm⟩ : ∃ m, x.length = m := ⟨_, rfl⟩
        rw [← hx] at hcell hrd hbk
        rw [hm] at hcell hbk
        have HX := hide hx
        have HM := hide hm
        have hltz : (k : Int) < n := by omega
        clear hx hm hc
        subst hA
        by_cases hp : Prm x
        · have HP := hide hp
          clear hp
          go_wp2_with fail
          clear k0
          refine (prmS_below _ _ _ x true _ HM.out (by omega) hrd (by simp [HP.out])).mono ?_
          rintro e w2 ⟨rfl, hq1⟩
          have HQ1 := hide hq1
          clear hq1
          go_wp2_with fail
          go_roundw
          case rel =>
            refine ⟨k + 1, by omega, by go_num, HB.out.trans (HQ1.out.mono HB.out.size), HK.out.later HQ1.out, fun i hi => ?_⟩
            by_cases e : i = k
            · subst e; rw [← HX.out]; exact HP.out
            · exact HALL.out i (by omega)
          case measure => simp [intOf]; omega
        · have HP := hide hp
          clear hp
          go_wp2_with fail
          clear k0
          refine (prmS_below _ _ _ x false _ HM.out (by omega) hrd (by simp [HP.out])).mono ?_
          rintro e w2 ⟨rfl, hq1⟩
          have HQ1 := hide hq1
          clear hq1
          have hnp : ¬ AllPrm f := fun h => by
            have h := h k (by have := HN.out; omega)
            rw [← HX.out] at h
            exact HP.out h
          have hrf : r = false := by
            cases r
            · rfl
            · have hrr : true = true ↔ Rck f := HR.out
              exact absurd (hrr.1 rfl).prm hnp
          subst hrf
          clear hnp
          go_wp2_with fail
          go_ret
          exact ⟨rfl, HB.out.trans (HQ1.out.mono HB.out.size)⟩
      · have hkn : k = n := by omega
        subst hkn
        have HAP : Hid (AllPrm f) := hide (fun i hi => HALL.out i (by have := HN.out; omega))
        go_wp2_with fail
        clear k0
        refine (faultK_any _ _ _ f T _ HN.out HTB.out (HRD.out.later HB.out) HT.out).mono ?_
        rintro e w3 (⟨hTe, rfl, hb3⟩ | ⟨hTl, g, rfl, hb3, hg, hob⟩)
        · have hrt : r = true := by
            have hrr : r = true ↔ Rck f := HR.out
            rw [hrr]
            refine ⟨⟨HTB.out, HAP.out⟩, ?_⟩
            rw [HN.out]
            exact HT.out.iff.1 hTe
          subst hrt
          have HB3 := hide (HB.out.trans (hb3.mono HB.out.size))
          clear hb3 hTe
          go_wp2_with fail
          go_ret
          exact ⟨rfl, HB3.out⟩
        · have hrf : r = false := by
            cases r
            · rfl
            · have hrr : true = true ↔ Rck f := HR.out
              have h := (hrr.1 rfl).2
              rw [HN.out] at h
              have := HT.out.iff.2 h
              omega
          subst hrf
          have HB3 := hide (HB.out.trans (hb3.mono HB.out.size))
          clear hb3 hTl hob
          go_wp2_with fail
          go_ret
          exact ⟨rfl, HB3.out⟩
  · have HTB := hide ht
    have hrf : r = false := by
      cases r
      · rfl
      · have hrr : true = true ↔ Rck f := HR.out
        exact absurd (hrr.1 rfl).tbl ht
    subst hrf
    clear hn hbs hr hres ht
    go_enter Try.func70, Try.ntmps70
    go_wp2_with fail
    refine (l01Table_any _ _ _ f false _ HN.out (by omega) (fun i hi => by have := HBS.out i hi; omega) (HRD.out.later HB0.out) (by simp [HTB.out])).mono ?_
    rintro e w1 ⟨rfl, hq1⟩
    have HB1 := hide (HB0.out.trans (hq1.below _))
    clear hq1
    go_wp2_with fail
    go_ret
    exact ⟨rfl, HB1.out⟩

end Go.Proofs.Ytpnlmmilnglmkaa
