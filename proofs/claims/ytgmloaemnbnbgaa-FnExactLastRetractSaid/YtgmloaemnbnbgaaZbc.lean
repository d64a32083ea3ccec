import Derived.Test.YtgmloaemnbnbgaaZbb
import Derived.Test.YtgmloaemnbnbgaaZv
import Derived.Test.YtgmloaemnbnbgaaZi
import Derived.RangeFuncLeaves
import Derived.RangeFuncBox
import Derived.Maps.AppendAt
import Derived.Maps.OwnIn
import Derived.RangeFuncCalls
import Derived.Test.YtgmloaemnbnbgaaZh
import Derived.Test.YtgmloaemnbnbgaaZd
import Derived.LoopNIn
import Derived.LoopIn
import Derived.RegionIn
import Derived.Test.YtgmloaemnbnbgaaZe
namespace Go.Proofs.Ytgmloaemnbnbgaa
open Go Go.RowKit Go.Shelf
attribute [local go_sem] Oper.semAt_some
attribute [local irreducible] serK lstTo siz
attribute [-go_sem] Builtin.append_
set_option maxHeartbeats 1000000
theorem serC_any (u v : Value) (w : World) :
    Calls Try.prog 59 #[.agg #[u, v]] w fun e w' => e = .returned (.func (.func 93) #[] #[.pointer (some ⟨w.heap.size, 0, none⟩)]) ∧ w' = w.alloc (.cells #[u, v] 29) := by
  go_enter Try.func59, Try.ntmps59
  go_wp2_with fail
  go_ret
  exact ⟨rfl, rfl⟩
theorem ownsRow_same {W W' : World} {B : Nat} {t : TypeId} {z n : Nat} {v : Value} {xs : List Value} (h : W.ownsRow B t z v n xs) (hs : ∀ g, v.ownBlock = some g → W'.heap[g]? = W.heap[g]?) : W'.ownsRow B t z v n xs := by
  refine ⟨h.1, ?_⟩
  rcases h.2 with h2 | ⟨g, cap, cur, hv, hg, hh, r⟩
  · exact .inl h2
  · exact .inr ⟨g, cap, cur, hv, hg, (hs g (by rw [hv]; rfl)).trans hh, r⟩
theorem ownsRow_cells {W : World} {B : Nat} {t : TypeId} {z n : Nat} {v : Value} {xs : List Value} (h : W.ownsRow B t z v n xs) {g : Nat} (hg : v.ownBlock = some g) : B ≤ g ∧ ∃ cur, W.heap[g]? = some (.cells cur t (0, 0)) := by
  rcases h.2 with ⟨h2, _⟩ | ⟨g2, cap, cur, hv, hB, hh, _⟩
  · rw [h2] at hg; simp [Value.ownBlock] at hg
  · rw [hv] at hg
    have e : g2 = g := by simpa [Value.ownBlock] using hg
    subst e
    exact ⟨hB, cur, hh⟩
/-- The size of one solution more is appended. -/
theorem szs_put {i0 : TypeInfo} (hi : Try.prog.info? 2 = some i0) (hz0 : i0.zero = some (.int .i64 0)) (hz1 : i0.size = 1) (hz2 : i0.bytes = 8) {W W1 : World} {bx B k : Nat} {vr : Value} {xs : List Int}
    (hbx : Blk W bx 26 [vr]) (hr : W.ownsRow B 2 1 vr k (ints xs)) (hB : B ≤ W.heap.size + 1) (hb : Below W.heap.size W W1) (hk : k < 12) (m : Nat) (hn : ∀ g, vr.ownBlock = some g → g ≠ bx) :
    ∃ A' c' W2, (Builtin.append_ #[26, 26] 26 #[vr, .slice (some ⟨W1.heap.size, 0, none⟩) 1 1]).run Try.prog (W1.alloc (.cells #[.int .i64 (m : Int)] 2)) = .ok (.slice A' (k + 1) c') W2 ∧
      (W1.alloc (.cells #[.int .i64 (m : Int)] 2)).grownBy W2 vr.ownBlock ∧ ((Value.slice A' (k + 1) c').ownBlock = vr.ownBlock ∨ (Value.slice A' (k + 1) c').ownBlock = some (W1.heap.size + 1)) ∧ W2.ownsRow B 2 1 (.slice A' (k + 1) c') (k + 1) (ints (xs ++ [(m : Int)])) ∧ Blk W2 bx 26 [vr] := by
  have hsz := hb.size
  have hr1 : (W1.alloc (.cells #[.int .i64 (m : Int)] 2)).ownsRow B 2 1 vr k (ints xs) := ownsRow_below (ownsRow_below hr hb) ((Below.refl _ _).alloc (Nat.le_refl _) _)
  obtain ⟨v', W2, hrun, hown, hgrow, _, hat⟩ := run_append_own_at (P := Try.prog) (W1.alloc (.cells #[.int .i64 (m : Int)] 2)) B 26 26 2 i0 (.int .i64 0) 1 8 Try.underlying26 hi hz0 hz1 hz2 rfl (by decide) vr k (ints xs) hr1
    ⟨W1.heap.size, 0, none⟩ 1 1 [.int .i64 (m : Int)] rfl (fun j u hj => by
      match j, hj with
      | 0, hj => simp at hj; subst hj; exact (Blk.new W1 2 [.int .i64 (m : Int)]).cell 0 _ rfl) (fun u hu => by simp at hu; subst hu; rfl) (by unfold maxLen; omega) (by omega) (by simp; omega)
  have hown2 : W2.ownsRow B 2 1 v' (k + 1) (ints (xs ++ [(m : Int)])) := by
    have e : ints (xs ++ [(m : Int)]) = ints xs ++ [.int .i64 (m : Int)] := by simp [ints]
    rw [e]; exact hown
  obtain ⟨A', c', rfl, _⟩ := own_shape hown2
  refine ⟨A', c', W2, hrun, hgrow, by simpa using hat, hown2, ?_⟩
  have h1 : Blk (W1.alloc (.cells #[.int .i64 (m : Int)] 2)) bx 26 [vr] := (hbx.later hb).later ((Below.refl _ _).alloc (Nat.le_refl _) _)
  have hl := h1.lt
  exact (hgrow.block bx hl (fun e => hn bx e.symm rfl)).trans h1
/-- What the sizes' loop holds. -/
structure SzI (w : World) (D : Nat) (t ts : TypeId) (f s : List (List Int)) (k L : Nat) (U : Nat → Prop) (W : World) : Prop where
  below : Below w.heap.size w W
  ex : ∃ v, Blk W (w.heap.size + 2) ts [v] ∧ W.ownsRow (w.heap.size + 1) t 1 v k (ints (szL f s k)) ∧ ∀ g, v.ownBlock = some g → (g ≠ L ∧ ¬ U g) ∧ (g < D ∨ D + 2 ≤ g)
  nU : ¬ U (w.heap.size + 2)
  nL : w.heap.size + 2 ≠ L
theorem SzI.step {w W W' : World} {D : Nat} {t ts : TypeId} {f s : List (List Int)} {k L : Nat} {U U' : Nat → Prop} (h : SzI w D t ts f s k L U W) (hL : w.heap.size ≤ L) (hs : StepL L W W') (hu : ∀ b, U' b → U b ∨ W.heap.size ≤ b) : SzI w D t ts f s k L U' W' := by
  obtain ⟨v, h1, h2, h3⟩ := h.ex
  have hlt := h1.lt
  refine ⟨hs.below h.below h.below.size hL, ⟨v, (hs.same _ hlt h.nL).trans h1, ownsRow_same h2 fun g hg => ?_, fun g hg => ⟨⟨(h3 g hg).1.1, fun hg2 => ?_⟩, (h3 g hg).2⟩⟩, fun h4 => ?_, h.nL⟩
  · obtain ⟨_, cur, hc⟩ := ownsRow_cells h2 hg
    exact hs.same g (Array.getElem?_eq_some_iff.1 hc).1 (h3 g hg).1.1
  · obtain ⟨_, cur, hc⟩ := ownsRow_cells h2 hg
    have := (Array.getElem?_eq_some_iff.1 hc).1
    rcases hu g hg2 with h5 | h5
    · exact (h3 g hg).1.2 h5
    · omega
  · rcases hu _ h4 with h5 | h5
    · exact h.nU h5
    · omega
theorem SzI.put {w W : World} {D : Nat} {t ts : TypeId} {f s : List (List Int)} {k L b : Nat} {U : Nat → Prop} {o : Obj} (o' : Obj) (h : SzI w D t ts f s k L U W) (hb : w.heap.size ≤ b) (ho : W.heap[b]? = some o) (hc : o.isCells = false) : SzI w D t ts f s k L U (W.putObj b o') := by
  obtain ⟨v, h1, h2, h3⟩ := h.ex
  have hne : ∀ g cur ty, W.heap[g]? = some (.cells cur ty (0, 0)) → g ≠ b := fun g cur ty hg e => by
    subst e
    rw [hg] at ho
    injection ho with ho
    subst ho
    cases hc
  refine ⟨h.below.grown (grownBy_putObj' W b o') h.below.size (fun k e => by cases e; exact hb), ⟨v, (World.putObj_heap_other (hne _ _ _ h1)).trans h1, ownsRow_same h2 fun g hg => ?_, h3⟩, h.nU, h.nL⟩
  obtain ⟨_, cur, hcc⟩ := ownsRow_cells h2 hg
  exact World.putObj_heap_other (hne _ _ _ hcc)
theorem szs_fin {w W W1 W2 : World} {D : Nat} {f s : List (List Int)} {k L m c' : Nat} {U : Nat → Prop} {vr : Value} {A' : Option Addr} (hbw : Below w.heap.size w W) (hrow : W.ownsRow (w.heap.size + 1) 2 1 vr k (ints (szL f s k)))
    (hfar : ∀ g, vr.ownBlock = some g → (g ≠ L ∧ ¬ U g) ∧ (g < D ∨ D + 2 ≤ g)) (hL : L < W.heap.size) (hU : ∀ b, U b → b < W.heap.size) (hnU : ¬ U (w.heap.size + 2)) (hnL : w.heap.size + 2 ≠ L) (hD : w.heap.size + 2 < D) (hD2 : D + 2 ≤ W.heap.size) (hm : siz f s k = m)
    (hb1 : Below W.drew.heap.size W.drew W1) (hgr : (W1.alloc (.cells #[.int .i64 (m : Int)] 2)).grownBy W2 vr.ownBlock) (hat : (Value.slice A' (k + 1) c').ownBlock = vr.ownBlock ∨ (Value.slice A' (k + 1) c').ownBlock = some (W1.heap.size + 1)) (ho : W2.ownsRow (w.heap.size + 1) 2 1 (.slice A' (k + 1) c') (k + 1) (ints (szL f s k ++ [(m : Int)]))) (hx2 : Blk W2 (w.heap.size + 2) 26 [vr])
    (hnot : ∀ g, vr.ownBlock = some g → g ≠ w.heap.size + 2) :
    KeepR D W (W2.setCell ⟨w.heap.size + 2, 0, none⟩ (.slice A' (k + 1) c')) ∧ KeepU U W (W2.setCell ⟨w.heap.size + 2, 0, none⟩ (.slice A' (k + 1) c')) ∧ SzI w D 2 26 f s (k + 1) L U (W2.setCell ⟨w.heap.size + 2, 0, none⟩ (.slice A' (k + 1) c')) := by
  have hbb : Below W.heap.size W W1 := (Below.refl _ W).drew.trans hb1
  have hs1 := hbb.size
  have hs2 : W1.heap.size + 1 ≤ W2.heap.size := by have h := hgr.size; simpa using h
  have hsf : (W2.setCell ⟨w.heap.size + 2, 0, none⟩ (.slice A' (k + 1) c')).heap.size = W2.heap.size := by simp [World.setCell]
  have hbs := hbw.size
  have hst : ∀ b, b < W.heap.size → b ≠ w.heap.size + 2 → (∀ g, vr.ownBlock = some g → g ≠ b) → (W2.setCell ⟨w.heap.size + 2, 0, none⟩ (.slice A' (k + 1) c')).heap[b]? = W.heap[b]? := fun b hb hn hg => by
    have h1 := Below.heap_setCell W2 ⟨w.heap.size + 2, 0, none⟩ (.slice A' (k + 1) c') b hn
    have h2 := hgr.block b (by simp; omega) (fun e => hg b e.symm rfl)
    have h3 := hb_same ((Below.refl _ W1).alloc (Nat.le_refl _) (.cells #[.int .i64 (m : Int)] 2)) (b := b) (by omega)
    exact h1.trans (h2.trans (h3.trans (hbb.block b hb)))
  have hg1 : ∀ g, vr.ownBlock = some g → w.heap.size + 1 ≤ g ∧ g < W.heap.size := fun g hg => by
    obtain ⟨h1, cur, hc⟩ := ownsRow_cells hrow hg
    exact ⟨h1, (Array.getElem?_eq_some_iff.1 hc).1⟩
  refine ⟨⟨by omega, fun b h1 h2 => hst b (by omega) (by omega) fun g hg e => ?_⟩, ⟨by omega, fun b h1 h2 => hst b h1 (fun e => hnU (e ▸ h2)) fun g hg e => (hfar g hg).1.2 (e ▸ h2)⟩, ?_, ⟨.slice A' (k + 1) c', hx2.set 0 _, ?_, fun g hg => ?_⟩, hnU, hnL⟩
  · have := (hfar g hg).2; omega
  · refine Below.setCell ?_ (by simp) _
    refine Below.grown ?_ hgr (by simp; omega) (fun g hg => by have := (hg1 g hg).1; omega)
    exact (hbw.trans (hbb.mono hbs)).alloc (by omega) _
  · rw [szL_succ, hm]
    refine ownsRow_same ho fun g hg => Below.heap_setCell _ _ _ _ ?_
    rcases hat with h | h
    · exact hnot g (h ▸ hg)
    · rw [hg] at h; injection h with h; simp; omega
  · rcases hat with h | h
    · exact hfar g (h ▸ hg)
    · rw [hg] at h
      injection h with h
      subst h
      exact ⟨⟨by omega, fun h4 => by have := hU _ h4; omega⟩, .inr (by omega)⟩
set_option maxRecDepth 100000 in
theorem szsI_any (A : Option Addr) (n c : Nat) (f : List (List Int)) (B : Option Addr) (d : Nat) (s : List (List Int)) (w : World) (hz : ZArg 1048576 w A n f B n s) (hg : NdS f s) :
    Calls Try.prog 56 #[.agg #[.slice A n c, .slice B n d]] w fun e w' => ∃ A' c', e = .returned (.slice A' (serK f s + 1) c') ∧ Below w.heap.size w w' ∧ Res 2 w.heap.size w' A' (szL f s (serK f s + 1)) := by
  have HZ := hide hz
  have HG := hide hg
  clear hz hg
  refine (callsIn_wide (n := 6)).1 ?_
  refine callsIn_of_wp_marks Try.func56 rfl trivial ?_ rfl
  simp only [Try.ntmps56, List.size_toArray, List.length_cons, List.length_nil, Nat.reduceAdd, Nat.reduceSub, Array.replicate_succ, Array.replicate_zero, List.push_toArray, List.append_toArray, List.nil_append, List.cons_append]
  refine wpIn_wide.2 ?_
  go_wp2_with fail
  refine calls_gen fun w1 hw1 => ?_
  have HB1 : Hid (Below w.heap.size w w1) := hide (by rw [hw1]; exact (((Below.refl _ w).alloc (Nat.le_refl _) _).alloc (by simp) _).alloc (by simp; omega) _)
  have HS1 : Hid (w1.heap.size = w.heap.size + 3) := hide (by rw [hw1]; simp)
  have HX1 : Hid (Blk w1 (w.heap.size + 2) 26 [.slice (some ⟨w.heap.size + 1, 0, none⟩) 0 0]) := hide (by rw [hw1]; have h := Blk.new ((w.alloc (.cells #[.slice A n c, .slice B n d] 29)).alloc (.cells #[] 2)) 26 [.slice (some ⟨w.heap.size + 1, 0, none⟩) 0 0]; simpa using h)
  have HR1 : Hid (w1.ownsRow (w.heap.size + 1) 2 1 (.slice (some ⟨w.heap.size + 1, 0, none⟩) 0 0) 0 []) := hide (by
    have h := ne_empty (w.alloc (.cells #[.slice A n c, .slice B n d] 29)) 2
    rw [World.size_alloc] at h
    rw [hw1]
    exact ownsRow_below h ((Below.refl _ _).alloc (Nat.le_refl _) _))
  clear hw1
  refine (serC_any _ _ _).mono ?_
  rintro e w2 ⟨rfl, hw2⟩
  have hb2 : Below w1.heap.size w1 w2 := by rw [hw2]; exact (Below.refl _ _).alloc (Nat.le_refl _) _
  have HB2 := hide (HB1.out.trans (hb2.mono HB1.out.size))
  have HX2 := hide (HX1.out.later hb2)
  have HR2 := hide (ownsRow_below HR1.out hb2)
  have HP2 : Hid (Blk w2 w1.heap.size 29 [.slice A n c, .slice B n d]) := hide (by rw [hw2]; exact Blk.new _ _ _)
  have HS2 : Hid (w2.heap.size = w1.heap.size + 1) := hide (by rw [hw2]; simp)
  clear hw2 hb2
  go_wp2_with fail
  obtain ⟨pz, hpz⟩ : ∃ pz, w1.heap.size = pz := ⟨_, rfl⟩
  rw [hpz] at HP2 HS2 ⊢
  rw [hpz] at HS1
  have hown0 : ∀ g, (Value.slice (some ⟨w.heap.size + 1, 0, none⟩) 0 0).ownBlock = some g → w.heap.size + 1 = g := fun g hg => by simpa [Value.ownBlock] using hg
  have h0 : ∀ L, w2.heap.size + 2 ≤ L → SzI w w2.heap.size 2 26 f s 0 L (fun b => b < w.heap.size ∨ b = pz) w2 := fun L hL =>
    ⟨HB2.out, ⟨_, HX2.out, by simpa [szL, ints] using HR2.out, fun g hg => by
      have e := hown0 g hg
      have hs1 := HS1.out
      have hs2 := HS2.out
      exact ⟨⟨by omega, fun h => by rcases h with h | h <;> omega⟩, .inl (by omega)⟩⟩, fun h => by have hs1 := HS1.out; rcases h with h | h <;> omega, by have hs1 := HS1.out; have hs2 := HS2.out; omega⟩
  refine (wpIn_wide (n := 5)).1 ?_
  refine wpIn_iterU (gf := 93) (lb := #[.pointer (some ⟨pz, 0, none⟩)]) rfl (enters_of Try.func93 (by kernel_rfl) rfl) (K := serK f s) (T := SerT f s 2 w.heap.size) (U0 := fun b => b < w.heap.size ∨ b = pz) (serI_any n c f A B d s pz _ w w2 HZ.out HG.out HB2.out (fun b hb => .inl hb) (fun b hb => by have hs1 := HS1.out; have hs2 := HS2.out; rcases hb with h | h <;> omega) HP2.out 5) (fun k L v U W h => by exact h.size) (fun k L v U W W' h hk => h.later hk) (fun b hb => by have hs1 := HS1.out; have hs2 := HS2.out; rcases hb with h | h <;> omega)
    (SzI w w2.heap.size 2 26 f s) (fun _ _ _ _ _ => False) (fun k L U U' W W' hL h hs hu => h.step (by have hs1 := HS1.out; have hs2 := HS2.out; omega) hs hu) (fun k L U W b o o' hb _ _ ho hc h => h.put o' (by have hs1 := HS1.out; have hs2 := HS2.out; omega) ho hc) (fun _ _ _ _ _ _ _ _ _ _ _ _ h => h)
    (fun L hL => h0 L (by omega))
    (fun k v a' W => ∃ A2 c2 B2 d2 u9 R, v = #[.agg #[.slice A2 (siz f s k) c2, .slice B2 (siz f s k) d2], u9] ∧ w2.heap.size + 2 ≤ R ∧ Blk W R 29 [.slice A2 (siz f s k) c2, .slice B2 (siz f s k) d2] ∧ a' = { tmps := #[.agg #[.slice A n c, .slice B n d], .pointer (some ⟨w.heap.size, 0, none⟩), .slice none 0 0, .pointer (some ⟨w.heap.size + 1 + 1, 0, none⟩), .pointer (some ⟨R, 0, none⟩), .slice (some ⟨w.heap.size + 1, 0, none⟩) 0 0, .agg #[.slice A n c, .slice B n d], .func (.func 93) #[] #[.pointer (some ⟨pz, 0, none⟩)], .agg #[.slice A2 (siz f s k) c2, .slice B2 (siz f s k) d2], u9, undef, undef, undef, undef, undef, undef], defers := [] })
    (fun k v a' W b o o' hb ho hc h => ?hap) ?assign ?body ?done ?stop
  case hap =>
    obtain ⟨A2, c2, B2, d2, u9, R, e1, e2, e3, e4⟩ := h
    refine ⟨A2, c2, B2, d2, u9, R, e1, e2, (World.putObj_heap_other (fun e => ?_)).trans e3, e4⟩
    subst e
    rw [show W.heap[R]? = _ from e3] at ho
    injection ho with ho
    subst ho
    cases hc
  case assign =>
    intro l k L v U W K' hT hsz hK
    obtain ⟨A2, c2, B2, d2, g2, cl, rfl, _, _, _, _⟩ := hT
    gi_wp2
    exact hK _ _ ((Below.refl _ _).alloc (Nat.le_refl _) _) ⟨A2, c2, B2, d2, _, W.heap.size, rfl, hsz, Blk.new _ _ _, rfl⟩
  case body =>
    rintro l k L v U a' W hk hL hUU hI hT ⟨A2, c2, B2, d2, u9, R, rfl, hR, hbR, rfl⟩ hsz
    obtain ⟨_, _, _, _, _, _, _, _, _, hLW, hUW⟩ := hT
    obtain ⟨vr, hbx, hrow, hfar⟩ := hI.ex
    have h12 := siz_12 HG.out k
    have hK12 := serK_lt HG.out
    obtain ⟨m, hm⟩ : ∃ m, siz f s k = m := ⟨_, rfl⟩
    rw [hm] at h12 hbR ⊢
    have HM := hide hm
    clear hm
    have HNOT : Hid (∀ g, vr.ownBlock = some g → g ≠ w.heap.size + 2) := hide fun g hg e => by
      obtain ⟨_, cur, hc⟩ := ownsRow_cells hrow hg
      subst e
      have h5 := hc.symm.trans hbx
      injection h5 with h5
      injection h5 with _ h6
      exact absurd h6 (by decide)
    have HNU := hide hI.nU
    have HNL := hide hI.nL
    have HBW := hide hI.below
    have HBX := hide hbx
    have HRW := hide hrow
    have HFAR := hide hfar
    have HLW := hide hLW
    have HUW := hide hUW
    have HHR := hide hR
    have HSW := hide hsz
    obtain ⟨i0, hi, hz0, hz1, hz2⟩ := info_parts clInfo
    have k0 := hbx.cell 0 _ rfl
    have kf := hbx.frozen 0
    have r0 := hbR.cell 0 _ rfl
    have r1 := hbR.cell 1 _ rfl
    have HBR := hide hbR
    clear hI hbx hrow hfar hLW hUW hR hbR hsz
    have hk12 : k < 12 := by omega
    have HKK := hide hk
    clear hk hK12
    have hmx : Try.prog.follows Departure.mixedOrders = true := by kernel_rfl
    have HBD : Hid (Blk W.drew (w.heap.size + 2) 26 [vr]) := hide HBX.out
    have HRD : Hid (W.drew.ownsRow (w.heap.size + 1) 2 1 vr k (ints (szL f s k))) := hide HRW.out
    gi_wp2
    have HZX := hide (szL_succ f s k)
    gi_region_with_o (first
      | (refine ⟨trivial, ?_⟩; gi_at_call 58; refine (CallsIn.inRound l (callsIn_wide.2 (size_any _ _ _ _ _ _ _ (by omega)))).mono ?_; rintro e W1 ⟨rfl, hb1⟩; obtain ⟨A', c', W2, hr, hgr, hat, ho, hx2⟩ := szs_put hi hz0 hz1 hz2 HBD.out HRD.out (by have := HBW.out.size; show _ ≤ W.heap.size + 1; omega) hb1 (by omega) m HNOT.out; have k0' : W1.cell? ⟨w.heap.size + 2, 0, none⟩ = some vr := (HBD.out.later hb1).cell 0 _ rfl; have k2' : W2.cell? ⟨w.heap.size + 2, 0, none⟩ = some vr := hx2.cell 0 _ rfl; have kne : w.heap.size + 2 < W1.heap.size := (HBD.out.later hb1).lt; have kne2 : w.heap.size + 2 ≠ W1.heap.size := Nat.ne_of_lt kne; have k3' : (W1.alloc (.cells #[.int .i64 (m : Int)] 2)).cell? ⟨w.heap.size + 2, 0, none⟩ = some vr := ((HBD.out.later hb1).later ((Below.refl _ _).alloc (Nat.le_refl _) _)).cell 0 _ rfl; have kf2 : W2.frozen? ⟨w.heap.size + 2, 0, none⟩ = false := hx2.frozen 0; have HGR := hide hgr; have HAT := hide hat; have HO := hide ho; have HX2 := hide hx2; have HB1 := hide hb1; clear hgr hat ho hx2 hb1))
    all_goals exact szs_fin HBW.out HRW.out HFAR.out HLW.out HUW.out HNU.out HNL.out (by have hs1 := HS1.out; have hs2 := HS2.out; omega) HSW.out HM.out HB1.out HGR.out HAT.out HO.out HX2.out HNOT.out
  case done =>
    rintro L U W hI hD
    obtain ⟨vr, hbx, hrow, hfar⟩ := hI.ex
    obtain ⟨A', c', rfl, hres⟩ := own_shape hrow
    have k0 := hbx.cell 0 _ rfl
    have hres2 : Res 2 w.heap.size (W.putObj w2.heap.size (.deferred none)) A' (szL f s (serK f s + 1)) := by
      rcases hres with h | ⟨g, h1, h2, h3⟩
      · exact .inl h
      · exact .inr ⟨g, h1, by omega, h3.of_block (World.putObj_heap_other (by have := (hfar g (by rw [h1]; rfl)).2; omega))⟩
    have HRS := hide hres2
    have hbf : Below w.heap.size w (W.putObj w2.heap.size (.deferred none)) := hI.below.grown (grownBy_putObj' W _ _) hI.below.size (fun k e => by have hs1 := HS1.out; have hs2 := HS2.out; cases e; omega)
    have HBF := hide hbf
    have HDD := hide hD
    clear hI hbx hrow hres hres2 hD hbf hfar
    gi_wp2
    go_wp2_with fail
    refine ⟨by simp, .inl ⟨_, _, rfl, run_takeDeferred HDD.out, ?_⟩⟩
    refine ⟨_, ?_, A', c', rfl, HBF.out, HRS.out⟩
    refine (results_tmp (t := 2) rfl _ _ _).trans ?_
    rfl
  case stop =>
    rintro c k L U W _ h _
    exact h.elim
end Go.Proofs.Ytgmloaemnbnbgaa
namespace Go.Proofs.Ytgmloaemnbnbgaa
open Go Go.RowKit
/-! A list of solutions that grows by append. -/
/-- Blocks of other types than tq stay. -/
def KeepB (tq : TypeId) (w w' : World) : Prop := w.heap.size ≤ w'.heap.size ∧ ∀ (j : Nat) (cur : Array Value) (ty : TypeId) (fr : Nat × Nat), w.heap[j]? = some (.cells cur ty fr) → ty ≠ tq → w'.heap[j]? = w.heap[j]?
section
variable {ts t tq : TypeId} {w w' : World} {lo hi : Nat} {A B : Option Addr} {f s rows : List (List Int)} {xs : List Int}
theorem Obj1.keptB (h : Obj1 t lo hi w A xs) (hk : KeepB tq w w') (h2 : t ≠ tq) : Obj1 t lo hi w' A xs := by
  rcases h with h | ⟨g, e, h1, h3, h4⟩
  · exact .inl h
  · refine .inr ⟨g, e, h1, h3, ?_⟩
    obtain ⟨cur, hc, hr⟩ := h4
    exact ⟨cur, (hk.2 g cur t (0, 0) hc h2).trans hc, hr⟩
theorem Obj2.keptB (h : Obj2 ts t lo hi w A rows) (hk : KeepB tq w w') (h1 : ts ≠ tq) (h2 : t ≠ tq) : Obj2 ts t lo hi w' A rows := by
  rcases h with h | ⟨g, R, C, e, k1, k2, ⟨cur, hc, hr⟩, ho, hd⟩
  · exact .inl h
  · exact .inr ⟨g, R, C, e, k1, k2, ⟨cur, (hk.2 g cur ts (0, 0) hc h1).trans hc, hr⟩, fun i hi => (ho i hi).keptB hk h2, hd⟩
theorem ObjW.keptB (h : ObjW ts t lo hi w A f B s) (hk : KeepB tq w w') (h1 : ts ≠ tq) (h2 : t ≠ tq) : ObjW ts t lo hi w' A f B s := ⟨h.1.keptB hk h1 h2, h.2.keptB hk h1 h2⟩
structure QL (ts t tq : TypeId) (B0 : Nat) (w : World) (v : Value) (k : Nat) (zs : Nat → SolV) (vs : List Value) : Prop where
  own : w.ownsRow B0 tq 2 v k vs
  obj : ∀ i, i < k → ∃ Ai ci Bi di, vs[i * 2]? = some (.slice Ai (zs i).1.length ci) ∧ vs[i * 2 + 1]? = some (.slice Bi (zs i).2.length di) ∧ ∃ lo hi, ObjW ts t lo hi w Ai (zs i).1 Bi (zs i).2
variable {B0 k : Nat} {v v' : Value} {zs : Nat → SolV} {vs : List Value} {w1 wx : World}
theorem ownsRow_belowQ {n : Nat} (h : w.ownsRow B0 tq 2 v n vs) (hb : Below w.heap.size w w') : w'.ownsRow B0 tq 2 v n vs := by
  refine ⟨h.1, ?_⟩
  rcases h.2 with h2 | ⟨g, cap, cur, hv, hg, hh, r⟩
  · exact .inl h2
  · exact .inr ⟨g, cap, cur, hv, hg, (hb.block g (Array.getElem?_eq_some_iff.1 hh).1).trans hh, r⟩
theorem QL.later (h : QL ts t tq B0 w v k zs vs) (hb : Below w.heap.size w w') : QL ts t tq B0 w' v k zs vs :=
  ⟨ownsRow_belowQ h.own hb, fun i hi => by
    obtain ⟨Ai, ci, Bi, di, h1, h2, lo, hi2, h3⟩ := h.obj i hi
    exact ⟨Ai, ci, Bi, di, h1, h2, lo, hi2, h3.later hb⟩⟩
theorem QL.keep (h : QL ts t tq B0 w v k zs vs) (hb : Below w.heap.size w wx) (hg : wx.grownBy w1 v.ownBlock) : KeepB tq w w1 := by
  refine ⟨Nat.le_trans hb.size hg.size, fun j cur ty fr hj hne => ?_⟩
  have hl := (Array.getElem?_eq_some_iff.1 hj).1
  refine (hg.block j (Nat.lt_of_lt_of_le hl hb.size) (fun e => ?_)).trans (hb.block j hl)
  rcases h.own.2 with ⟨h2, _⟩ | ⟨g, cap, c2, hv, _, hh, _⟩
  · rw [h2] at e; simp [Value.ownBlock] at e
  · rw [hv] at e
    have e2 : j = g := by simpa [Value.ownBlock] using e
    subst e2
    rw [hj] at hh
    injection hh with hh
    injection hh with _ h5 _
    exact hne h5
theorem QL.push {cA cB : Nat} (h : QL ts t tq B0 w v k zs vs) (h1 : ts ≠ tq) (h2 : t ≠ tq) (hz : ObjW ts t lo hi w A (zs k).1 B (zs k).2) (hb : Below w.heap.size w wx) (hg : wx.grownBy w1 v.ownBlock) (hown : w1.ownsRow B0 tq 2 v' (k + 1) (vs ++ [.slice A (zs k).1.length cA, .slice B (zs k).2.length cB])) :
    QL ts t tq B0 w1 v' (k + 1) zs (vs ++ [.slice A (zs k).1.length cA, .slice B (zs k).2.length cB]) := by
  have hk := h.keep hb hg
  have hl := h.own.1
  refine ⟨hown, fun i hi2 => ?_⟩
  by_cases e : i = k
  · subst e
    exact ⟨A, cA, B, cB, by rw [List.getElem?_append_right (by omega), hl]; simp, by rw [List.getElem?_append_right (by omega), hl, show i * 2 + 1 - i * 2 = 1 by omega]; rfl, lo, hi, hz.keptB hk h1 h2⟩
  · obtain ⟨Ai, ci, Bi, di, k1, k2, l2, hi3, k3⟩ := h.obj i (by omega)
    exact ⟨Ai, ci, Bi, di, by rw [List.getElem?_append_left (by omega)]; exact k1, by rw [List.getElem?_append_left (by omega)]; exact k2, l2, hi3, k3.keptB hk h1 h2⟩
theorem QL.rd {c : Nat} {A : Option Addr} {fz sz : List (List Int)} (h : QL ts t tq B0 w (.slice A k c) k (osZ fz sz) vs) : RdQ w A (osL fz sz k) := by
  intro h0
  have hl := osL_length fz sz k
  rcases h.own.2 with ⟨_, h2⟩ | ⟨g, cap, cur, hv, hg, hh, hn, _, _, htk⟩
  · omega
  · injection hv with e1 e2 e3
    refine ⟨g, 0, e1, (Array.getElem?_eq_some_iff.1 hh).1, fun i hi => ?_⟩
    obtain ⟨Ai, ci, Bi, di, k1, k2, l2, hi3, k3⟩ := h.obj i (by omega)
    rw [osL_at fz sz k i (by omega)]
    have at_ : ∀ j u, vs[j]? = some u → w.cell? ⟨g, j, none⟩ = some u := fun j u hj => by
      rw [cell_of_row w g j cur tq (0, 0) hh]
      have hjl : j < vs.length := (List.getElem?_eq_some_iff.1 hj).1
      have := h.own.1
      rw [← htk, List.getElem?_take, if_pos (by omega)] at hj
      simpa using hj
    exact ⟨Ai, ci, Bi, di, by rw [Nat.zero_add]; exact at_ _ _ k1, by rw [Nat.zero_add]; exact at_ _ _ k2, k3.fst, k3.snd⟩
theorem QL.app {w0 : World} {cA cB gl : Nat} {T : TypeId} {cs : List Value} (h : QL ts t tq (w0.heap.size + 1) w v k zs vs) (h1 : ts ≠ tq) (h2 : t ≠ tq) (hz : ObjW ts t lo hi w A (zs k).1 B (zs k).2) (hb : Below w.heap.size w wx) (hg : wx.grownBy w1 v.ownBlock) (hown : w1.ownsRow (w0.heap.size + 1) tq 2 v' (k + 1) (vs ++ [.slice A (zs k).1.length cA, .slice B (zs k).2.length cB])) (HB : Below w0.heap.size w0 w) (HK : Blk w w0.heap.size T cs) (HL : OwnB t w gl xs) :
    Below w0.heap.size w0 w1 ∧ Blk w1 w0.heap.size T cs ∧ OwnB t w1 gl xs ∧ QL ts t tq (w0.heap.size + 1) w1 v' (k + 1) zs (vs ++ [.slice A (zs k).1.length cA, .slice B (zs k).2.length cB]) := by
  have hown2 : ∀ g, v.ownBlock = some g → w0.heap.size + 1 ≤ g := by
    intro g e
    rcases h.own.2 with ⟨h3, _⟩ | ⟨g3, cap, c2, hv, hg3, _⟩
    · rw [h3] at e; simp [Value.ownBlock] at e
    · rw [hv] at e
      have e2 : g3 = g := by simpa [Value.ownBlock] using e
      omega
  refine ⟨(HB.trans (hb.mono HB.size)).grown hg (Nat.le_trans HB.size hb.size) (fun g e => by have := hown2 g e; omega), ?_, ?_, h.push h1 h2 hz hb hg hown⟩
  · have hl := (Array.getElem?_eq_some_iff.1 HK).1
    exact ((hg.block w0.heap.size (Nat.lt_of_lt_of_le hl hb.size) (fun e => by have := hown2 _ e.symm; omega)).trans (hb.block _ hl)).trans HK
  · obtain ⟨cur, hc, hr⟩ := HL
    exact ⟨cur, ((h.keep hb hg).2 gl cur t (0, 0) hc h2).trans hc, hr⟩
theorem twoS_new {a b : Value} {t : TypeId} : ∀ j u, [a, b][j]? = some u → (w.alloc (.cells #[a, b] t)).cell? ((⟨w.heap.size, 0, none⟩ : Addr).add j) = some u := by
  intro j u hj
  have e : ((⟨w.heap.size, 0, none⟩ : Addr).add j) = ⟨w.heap.size, j, none⟩ := by
    cases j with
    | zero => rfl
    | succ j => simp [Addr.add]
  rw [e, cell_of_row _ _ _ #[a, b] t (0, 0) (heap_alloc_new _ _)]
  simpa using hj
theorem twoS_one {A B : Option Addr} {a b c d : Nat} : ∀ u ∈ [Value.slice A a b, Value.slice B c d], u.oneCell' = true := by
  intro u hu
  simp at hu
  rcases hu with rfl | rfl <;> rfl
theorem QL.nil (B0 : Nat) (w : World) (g : Nat) (h : w.heap[g]? = some (.cells #[] tq (0, 0))) (hB : B0 ≤ g) : QL ts t tq B0 w (.slice (some ⟨g, 0, none⟩) 0 0) 0 zs [] :=
  ⟨⟨by simp, .inr ⟨g, 0, #[], rfl, hB, h, Nat.le_refl _, by unfold maxLen; omega, by simp, by simp⟩⟩, fun i hi => absurd hi (Nat.not_lt_zero _)⟩
end
end Go.Proofs.Ytgmloaemnbnbgaa
