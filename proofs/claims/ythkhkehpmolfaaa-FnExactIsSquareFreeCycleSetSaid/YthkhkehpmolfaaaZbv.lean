import Derived.Test.YthkhkehpmolfaaaZbn
import Derived.Test.YthkhkehpmolfaaaZw
import Derived.Test.YthkhkehpmolfaaaZap
import Derived.Test.YthkhkehpmolfaaaZah
import Derived.Test.YthkhkehpmolfaaaZn
import Derived.Test.YthkhkehpmolfaaaZbc
import Derived.Test.YthkhkehpmolfaaaZbr
namespace Go.Proofs.Ythkhkehpmolfaaa
open Go Go.RowKit
set_option maxHeartbeats 2000000
/-- The inverses of the rows of a table that has been tested, and the pair of it and them. -/
def Inv2 (lo hi : Nat) (w : World) (B : Option Addr) (f : List (List Int)) : Prop := Obj2 31 2 lo hi w B (dualL f)

set_option maxRecDepth 100000 in
theorem tested_any (A : Option Addr) (n c : Nat) (f : List (List Int)) (r : Bool) (w : World) (hn : f.length = n) (hb : n ≤ 1048576) (hbs : ∀ i, i < f.length → (f.getD i []).length ≤ 1048576) (hr : Rd2 w A f) (hres : CyRes f r) :
    Calls Try.prog 61 #[.agg #[.slice A n c]] w fun e w' => (r = true ∧ ∃ B d, e = .returned (.tuple #[.agg #[.slice A n c, .slice B n d], .bool true]) ∧ Below w.heap.size w w' ∧ Inv2 w.heap.size w'.heap.size w' B f) ∨ (r = false ∧ e = .returned (.tuple #[.agg #[.slice none 0 0, .slice none 0 0], .bool false]) ∧ Below w.heap.size w w') := by
  have HN := hide hn
  have HBS := hide hbs
  have HRD := hide hr
  have HRS := hide hres
  have HB0 := hide (((Below.refl _ w).alloc (Nat.le_refl _) (Obj.cells #[Value.slice A n c] 27)).alloc (by simp) (Obj.cells #[.slice none 0 0, .slice none 0 0] 65))
  have HR0 : Hid (Blk ((w.alloc (Obj.cells #[Value.slice A n c] 27)).alloc (Obj.cells #[.slice none 0 0, .slice none 0 0] 65)) (w.heap.size + 1) 65 [.slice none 0 0, .slice none 0 0]) := hide (by have h := Blk.new (w.alloc (Obj.cells #[Value.slice A n c] 27)) 65 [.slice none 0 0, .slice none 0 0]; simpa using h)
  clear hn hbs hr hres
  go_enter Try.func61, Try.ntmps61
  go_wp2_with fail
  refine (isCycD _ _ _ f r _ HN.out hb HBS.out (HRD.out.later HB0.out) HRS.out).mono ?_
  rintro e w1 ⟨rfl, hb1⟩
  have HB1 := hide (HB0.out.trans (hb1.mono HB0.out.size))
  have HR1 := hide (HR0.out.later hb1)
  clear hb1
  cases r with
  | false =>
    have k0 := HR1.out.cell 0 _ rfl
    have k1 := HR1.out.cell 1 _ rfl
    have k2 := HR1.out.frozen 0
    have k3 := HR1.out.frozen 1
    go_wp2_with fail
    refine bp_gen fun wf hwf => ?_
    have HRF : Blk wf (w.heap.size + 1) 65 [.slice none 0 0, .slice none 0 0] := by rw [hwf]; first | exact HR1.out | exact (HR1.out.set 0 _).set 1 _
    have hbf : Below w.heap.size w wf := by rw [hwf]; first | exact HB1.out | exact (HB1.out.setCell (p := ⟨w.heap.size + 1, 0, none⟩) (by show w.heap.size ≤ w.heap.size + 1; omega) _).setCell (p := ⟨w.heap.size + 1, 1, none⟩) (by show w.heap.size ≤ w.heap.size + 1; omega) _
    have q0 := HRF.cell 0 _ rfl
    have q1 := HRF.cell 1 _ rfl
    clear hwf k0 k1 k2 k3
    exact bodyPost_ret (v := .tuple #[.agg #[.slice none 0 0, .slice none 0 0], .bool false]) (by simp [results, Try.results61, go_sem, q0, q1]) rfl ⟨rfl, hbf⟩
  | true =>
    have hcy : Cyc f := HRS.out.1 rfl
    have HTB := hide hcy.tbl
    have HPM := hide hcy.prm
    clear hcy
    go_wp2_with fail
    refine (inverses_any A n c f _ HN.out HTB.out HPM.out (HRD.out.later HB1.out)).mono ?_
    rintro e w2 ⟨A5, c5, rfl, hb2, hob⟩
    have hGw : w.heap.size + 1 < w1.heap.size := HR1.out.lt
    have HB2 := hide (HB1.out.trans (hb2.mono HB1.out.size))
    have HR2 := hide (HR1.out.later hb2)
    have HO := hide hob
    have hs2 := hb2.size
    clear hb2 hob
    have k0 := HR2.out.cell 0 _ rfl
    have k1 := HR2.out.cell 1 _ rfl
    have k2 := HR2.out.frozen 0
    have k3 := HR2.out.frozen 1
    go_wp2_with fail
    refine bp_gen fun wf hwf => ?_
    have HRF : Blk wf (w.heap.size + 1) 65 [.slice A n c, .slice A5 n c5] := by rw [hwf]; exact (HR2.out.set 0 _).set 1 _
    have hbf : Below w.heap.size w wf := by rw [hwf]; exact (HB2.out.setCell (p := ⟨w.heap.size + 1, 0, none⟩) (by show w.heap.size ≤ w.heap.size + 1; omega) _).setCell (p := ⟨w.heap.size + 1, 1, none⟩) (by show w.heap.size ≤ w.heap.size + 1; omega) _
    have hsf : wf.heap.size = w2.heap.size := by rw [hwf]; simp [World.setCell]
    have hof : Obj2 31 2 w1.heap.size w2.heap.size wf A5 (dualL f) := by rw [hwf]; exact (HO.out.set (.inl hGw) _).set (.inl hGw) _
    have q0 := HRF.cell 0 _ rfl
    have q1 := HRF.cell 1 _ rfl
    clear hwf k0 k1 k2 k3
    refine bodyPost_ret (v := .tuple #[.agg #[.slice A n c, .slice A5 n c5], .bool true]) (by simp [results, Try.results61, go_sem, q0, q1]) rfl ⟨_, ⟨_, rfl⟩, hbf, ?_⟩
    exact hof.mono (by omega) (by omega)

/-- What there is of a tested cycle set. -/
structure CyHeld (w : World) (A B : Option Addr) (n : Nat) (f : List (List Int)) : Prop where
  len : f.length = n
  cyc : Cyc f
  rd : Rd2 w A f
  inv : Rd2 w B (dualL f)
theorem CyHeld.later {w w' : World} {A B : Option Addr} {n : Nat} {f : List (List Int)} (h : CyHeld w A B n f) (hb : Below w.heap.size w w') : CyHeld w' A B n f := ⟨h.len, h.cyc, h.rd.later hb, h.inv.later hb⟩

set_option maxRecDepth 100000 in
theorem solve_any (A B : Option Addr) (n c d : Nat) (f : List (List Int)) (x z : Nat) (w : World) (h : CyHeld w A B n f) (hx : x < n) (hz : z < n) :
    Calls Try.prog 63 #[.agg #[.slice A n c, .slice B n d], .int .i64 x, .int .i64 z] w fun e w' => e = .returned (.int .i64 (sol f x z : Nat)) ∧ Below w.heap.size w w' := by
  have h12 : n ≤ 12 := by rw [← h.len]; exact h.cyc.le
  have hdt := dual_tbl h.cyc.tbl h.cyc.prm
  have hdl : (dualL f).length = n := by rw [dualL_len]; exact h.len
  have hu := sol_ap h.cyc.tbl h.cyc.prm h.len hx hz
  obtain ⟨u, hu2⟩ : ∃ u, sol f x z = u := ⟨_, rfl⟩
  rw [hu2] at hu ⊢
  obtain ⟨b, o, rfl, hb, hc⟩ := hdt.cells h.inv hdl
  obtain ⟨bx, ox, cx, h1, h2, h3⟩ := hc x hx
  have h4 := h3 z hz
  rw [hu] at h4
  have hbb := ((Below.refl _ w).alloc (Nat.le_refl _) (Obj.cells #[Value.slice A n c, Value.slice (some ⟨b, o, none⟩) n d] 65))
  have HB0 := hide hbb
  have a4 := (hbb.cell (p := ⟨b, o + x, none⟩) hb).trans h1
  have a6 := (hbb.cell (p := ⟨bx, ox + z, none⟩) h2).trans h4
  have hxz : (x : Int) < n := by omega
  have hzz : (z : Int) < n := by omega
  clear hbb h1 h3 h4 hc hu hu2 hdt hdl h
  go_enter Try.func63, Try.ntmps63
  go_wp2_with fail
  go_ret
  exact ⟨rfl, HB0.out⟩
end Go.Proofs.Ythkhkehpmolfaaa
