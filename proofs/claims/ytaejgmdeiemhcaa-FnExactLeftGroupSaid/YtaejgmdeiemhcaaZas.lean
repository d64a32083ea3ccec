import Derived.Test.YtaejgmdeiemhcaaZaq
namespace Go.Proofs.Ytaejgmdeiemhcaa
open Go Go.RowKit
set_option maxHeartbeats 2000000
theorem sysLamR (f s : List (List Int)) (n : Nat) (hn : f.length = n) : SysFnR Try.prog 57 #[] f s f n := by
  intro W A n' c B m d hz hg
  obtain rfl : n = n' := by rw [← hn]; exact hz.sz.fl
  have h1 := (hg.sizes hn).1
  have h := lamZ_any A n c f B m d s W hz h1
  have h2 := h.mono (R' := fun e w' => ∃ A' c', e = .returned (.slice A' n c') ∧ Below W.heap.size W w' ∧ Rd2 w' A' f) (fun e w' hh => by obtain ⟨A', c', e1, e2, e3⟩ := hh; exact ⟨A', c', e1, e2, e3.rd⟩)
  simpa using h2
theorem sysRhoR (f s : List (List Int)) (n : Nat) (hn : f.length = n) : SysFnR Try.prog 59 #[] f s (turnL s) n := by
  intro W A n' c B m d hz hg
  obtain rfl : n = n' := by rw [← hn]; exact hz.sz.fl
  have h := rhoZ_any A n c f B m d s W hz hg.map
  have h2 := h.mono (R' := fun e w' => ∃ A' c', e = .returned (.slice A' n c') ∧ Below W.heap.size W w' ∧ Rd2 w' A' (turnL s)) (fun e w' hh => by obtain ⟨A', c', e1, e2, e3⟩ := hh; exact ⟨A', c', e1, e2, e3.rd⟩)
  simpa using h2
theorem sysWsyR (f s : List (List Int)) (n : Nat) (hn : f.length = n) : SysFnR Try.prog 66 #[] f s (bothL f s) (n + n) := by
  intro W A n' c B m d hz hg
  obtain rfl : n = n' := by rw [← hn]; exact hz.sz.fl
  obtain rfl := hz.same hg.map
  have h := wsyZ_any A m c f B d s W hz hg.map
  simpa using h
theorem lgoI (A : Option Addr) (n c : Nat) (f : List (List Int)) (B : Option Addr) (m d : Nat) (s : List (List Int)) (v code : Int) (w : World) (hz : ZArg 1048576 w A n f B m s) (hr : LgoRes f s v code) :
    Calls Try.prog 29 #[.agg #[.slice A n c, .slice B m d]] w fun e w' => e = .returned (.tuple #[.int .i64 v, .int .i64 code]) ∧ Below w.heap.size w w' := by
  have HZ := hide hz
  have HR := hide hr
  have HB0 := hide ((Below.refl _ w).alloc (Nat.le_refl _) (Obj.cells #[Value.slice A n c, Value.slice B m d] 28))
  clear hz hr
  go_enter Try.func29, Try.ntmps29
  go_wp2_with fail
  refine (orderBy_any 57 #[] f n _ _ _ f _ _ _ s v code _ (HZ.out.later HB0.out) (enters_of Try.func57 (by kernel_rfl) rfl) (sysLamR f s n HZ.out.sz.fl) HR.out (fun h => ⟨HZ.out.sz.fl, by have := (h.sizes HZ.out.sz.fl).2.1; omega⟩) (fun h => h.lam rfl)).mono ?_
  rintro e w1 ⟨rfl, hb1⟩
  have HB1 := hide (HB0.out.trans (hb1.mono HB0.out.size))
  clear hb1
  go_wp2_with fail
  go_ret2
  exact ⟨rfl, HB1.out⟩
theorem rgoI (A : Option Addr) (n c : Nat) (f : List (List Int)) (B : Option Addr) (m d : Nat) (s : List (List Int)) (v code : Int) (w : World) (hz : ZArg 1048576 w A n f B m s) (hr : RgoRes f s v code) :
    Calls Try.prog 31 #[.agg #[.slice A n c, .slice B m d]] w fun e w' => e = .returned (.tuple #[.int .i64 v, .int .i64 code]) ∧ Below w.heap.size w w' := by
  have HZ := hide hz
  have HR := hide hr
  have HB0 := hide ((Below.refl _ w).alloc (Nat.le_refl _) (Obj.cells #[Value.slice A n c, Value.slice B m d] 28))
  clear hz hr
  go_enter Try.func31, Try.ntmps31
  go_wp2_with fail
  refine (orderBy_any 59 #[] (turnL s) n _ _ _ f _ _ _ s v code _ (HZ.out.later HB0.out) (enters_of Try.func59 (by kernel_rfl) rfl) (sysRhoR f s n HZ.out.sz.fl) HR.out (fun h => ⟨by rw [turnL_length]; exact (h.sizes HZ.out.sz.fl).2.2, by have := (h.sizes HZ.out.sz.fl).2.1; omega⟩) (fun h => h.rho rfl)).mono ?_
  rintro e w1 ⟨rfl, hb1⟩
  have HB1 := hide (HB0.out.trans (hb1.mono HB0.out.size))
  clear hb1
  go_wp2_with fail
  go_ret2
  exact ⟨rfl, HB1.out⟩
theorem wgoI (A : Option Addr) (n c : Nat) (f : List (List Int)) (B : Option Addr) (m d : Nat) (s : List (List Int)) (v code : Int) (w : World) (hz : ZArg 1048576 w A n f B m s) (hr : WgoRes f s v code) :
    Calls Try.prog 33 #[.agg #[.slice A n c, .slice B m d]] w fun e w' => e = .returned (.tuple #[.int .i64 v, .int .i64 code]) ∧ Below w.heap.size w w' := by
  have HZ := hide hz
  have HR := hide hr
  have HB0 := hide ((Below.refl _ w).alloc (Nat.le_refl _) (Obj.cells #[Value.slice A n c, Value.slice B m d] 28))
  clear hz hr
  go_enter Try.func33, Try.ntmps33
  go_wp2_with fail
  refine (orderBy_any 66 #[] (bothL f s) (n + n) _ _ _ f _ _ _ s v code _ (HZ.out.later HB0.out) (enters_of Try.func66 (by kernel_rfl) rfl) (sysWsyR f s n HZ.out.sz.fl) HR.out (fun h => ⟨bothL_length HZ.out.sz.fl (h.sizes HZ.out.sz.fl).2.2, by have := (h.sizes HZ.out.sz.fl).2.1; omega⟩) (fun h => h.both rfl)).mono ?_
  rintro e w1 ⟨rfl, hb1⟩
  have HB1 := hide (HB0.out.trans (hb1.mono HB0.out.size))
  clear hb1
  go_wp2_with fail
  go_ret2
  exact ⟨rfl, HB1.out⟩
end Go.Proofs.Ytaejgmdeiemhcaa
namespace Go.Proofs.Ytaejgmdeiemhcaa
open Go Go.RowKit
section
variable {ts t : TypeId} {B g : Nat} {w w' : World} {v vq vs : Value} {rows queue srt : List (List Int)} {vals qvals svals nvals : List Value}
theorem own_chg {n : Nat} (h : w.ownsRow B ts 1 v n vals) (hc : Chg g w w') (hd : v.ownBlock ≠ some g) : w'.ownsRow B ts 1 v n vals := by
  refine ⟨h.1, ?_⟩
  rcases h.2 with h1 | ⟨g0, cap, cur, hv, hb, hh, rest⟩
  · exact .inl h1
  · refine .inr ⟨g0, cap, cur, hv, hb, ?_, rest⟩
    rw [hc.block g0 (Array.getElem?_eq_some_iff.1 hh).1 (fun e => hd (by rw [hv, ← e]; rfl))]
    exact hh
/-- A row is put into the sorted list. -/
theorem Qs.put {A : Option Addr} {c k n m cap g' cap' : Nat} {p : List Int} (hne : ts ≠ t) (h : Qs ts t B w vq (.slice (some ⟨g, 0, none⟩) m cap) queue srt qvals svals) (hc : Chg g w w') (hk : k ≤ srt.length) (hA : Obj1 t B w.heap.size w A p) (hg : g' = g ∨ w.heap.size ≤ g')
    (hn : n = (insL srt k p).length) (hown : w'.ownsRow B ts 1 (.slice (some ⟨g', 0, none⟩) n cap') n (svals.take k ++ .slice A p.length c :: svals.drop k)) : Qs ts t B w' vq (.slice (some ⟨g', 0, none⟩) n cap') queue (insL srt k p) qvals (svals.take k ++ .slice A p.length c :: svals.drop k) := by
  have hkt : KeepT t w w' := hc.keepT hne rfl h.s
  have hdq : vq.ownBlock ≠ some g := fun e => h.d g e rfl
  refine ⟨⟨own_chg h.q.own hc hdq, fun i hi => ?_, h.q.ne⟩, by rw [← hn]; exact hown, (h.r.kept hkt hc.size).ins hk ((hkt.obj hA).mono (Nat.le_refl _) hc.size), fun g0 hg0 e => ?_⟩
  · obtain ⟨A', c', h1, h2⟩ := h.q.row i hi
    exact ⟨A', c', h1, (hkt.obj h2).mono (Nat.le_refl _) hc.size⟩
  · simp [Value.ownBlock] at e
    subst e
    rcases hg with e | e
    · subst e; exact h.d _ hg0 rfl
    · have := (own_lt h.q.own hg0).2; omega
/-- Two lists of one row each. -/
theorem Qs.start2 {A A2 : Option Addr} {c c2 : Nat} {r : List Int} (hB : B ≤ w.heap.size) (hb : Below w.heap.size w w') (hs : g = w'.heap.size) (hq : LstV ts t B w' vq [r] [.slice A r.length c]) (hvq : ∀ g0, vq.ownBlock = some g0 → g0 < w'.heap.size) (hr2 : Obj1 t B w'.heap.size w' A2 r) :
    Qs ts t B (w'.alloc (.cells #[.slice A2 r.length c2] ts)) vq (.slice (some ⟨g, 0, none⟩) 1 1) [r] [r] [.slice A r.length c] [.slice A2 r.length c2] := by
  have h2 : Below w'.heap.size w' (w'.alloc (.cells #[.slice A2 r.length c2] ts)) := (Below.refl _ _).alloc (Nat.le_refl _) _
  subst hs
  refine ⟨hq.later h2, ⟨rfl, .inr ⟨w'.heap.size, 1, #[.slice A2 r.length c2], rfl, Nat.le_trans hB hb.size, heap_alloc_new _ _, Nat.le_refl _, by unfold maxLen; omega, by simp, by simp⟩⟩, ⟨rfl, fun i hi => ?_⟩, fun g0 hg0 e => ?_⟩
  · simp at hi
    subst hi
    exact ⟨A2, c2, rfl, (hr2.later h2).mono (Nat.le_refl _) h2.size⟩
  · simp [Value.ownBlock] at e
    have := hvq g0 hg0
    omega
end
end Go.Proofs.Ytaejgmdeiemhcaa
