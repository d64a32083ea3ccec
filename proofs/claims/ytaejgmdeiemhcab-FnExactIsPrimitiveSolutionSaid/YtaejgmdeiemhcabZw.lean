import Derived.Test.YtaejgmdeiemhcabZf
import Derived.Test.YtaejgmdeiemhcabZc
import Derived.Test.YtaejgmdeiemhcabZe
namespace Go.Proofs.Ytaejgmdeiemhcab
open Go Go.RowKit
set_option maxHeartbeats 1000000

theorem eqK_any (A B : Option Addr) (n c m d : Nat) (f g : List (List Int)) (r : Bool) (w : World) (hn : f.length = n) (hm : g.length = m) (hb : n ≤ 1048576) (hb2 : m ≤ 1048576)
    (hbs : ∀ i, i < f.length → (f.getD i []).length ≤ 1048576) (hbt : ∀ i, i < g.length → (g.getD i []).length ≤ 1048576) (hx : Rd2 w A f) (hy : Rd2 w B g) (hr : r = true ↔ f = g) :
    Calls Try.prog 30 #[.agg #[.slice A n c], .agg #[.slice B m d]] w fun e w' => e = .returned (.bool r) ∧ Below w.heap.size w w' := by
  have HN := hide hn
  have HM := hide hm
  have HBS := hide hbs
  have HBT := hide hbt
  clear hn hm hbs hbt
  have HB0 := hide (((Below.refl _ w).alloc (Nat.le_refl _) (Obj.cells #[Value.slice A n c] 49)).alloc (by simp) (Obj.cells #[Value.slice B m d] 49))
  cases r
  · have HR := hide hr
    clear hr
    go_enter Try.func30, Try.ntmps30
    go_wp2_with fail
    refine (eqq_any _ _ _ _ _ _ f g false _ HN.out HM.out (by omega) (by omega) (fun i hi => by have := HBS.out i hi; omega) (fun i hi => by have := HBT.out i hi; omega) (hx.later HB0.out) (hy.later HB0.out) (by simpa using HR.out)).mono ?_
    rintro e w1 ⟨rfl, hq1⟩
    have HB1 := hide (HB0.out.trans (hq1.below _))
    clear hq1
    go_wp2_with fail
    go_ret
    exact ⟨rfl, HB1.out⟩
  · have HR := hide hr
    clear hr
    go_enter Try.func30, Try.ntmps30
    go_wp2_with fail
    refine (eqq_any _ _ _ _ _ _ f g true _ HN.out HM.out (by omega) (by omega) (fun i hi => by have := HBS.out i hi; omega) (fun i hi => by have := HBT.out i hi; omega) (hx.later HB0.out) (hy.later HB0.out) (by simpa using HR.out)).mono ?_
    rintro e w1 ⟨rfl, hq1⟩
    have HB1 := hide (HB0.out.trans (hq1.below _))
    clear hq1
    go_wp2_with fail
    go_ret
    exact ⟨rfl, HB1.out⟩
theorem markK (ts t : TypeId) (hne : ts ≠ t) (lo hi : Nat) (A : Option Addr) (n c : Nat) (k : Int) (f : List (List Int)) (w : World) (hn : f.length = n) (hb : n ≤ 1048576) (hbs : ∀ i, i < f.length → (f.getD i []).length ≤ 1048576) (ht : tot f ≤ 2305843009213693952) (hk : 0 ≤ k) (hk2 : k ≤ 1152921504606846976) (hr : Obj2 ts t lo hi w A f) :
    Calls Try.prog 31 #[.agg #[.slice A n c], .int .i64 k] w fun e w' => e = .returned (.int .i64 (k + (tot f : Int))) ∧ Touch lo hi w w' ∧ Obj2 ts t lo hi w' A (marks2 k f) := by
  have HNE := hide hne
  have HN := hide hn
  have HBS := hide hbs
  have HT := hide ht
  have HB0 := hide ((Below.refl _ w).alloc (Nat.le_refl _) (Obj.cells #[Value.slice A n c] 49))
  have htf : tot f ≤ 1099511627776 := tot_bound f (by omega) hbs
  clear hne hn hbs ht
  obtain ⟨F, hF⟩ : ∃ F, tot f = F := ⟨_, rfl⟩
  rw [hF] at htf ⊢
  have HF := hide hF
  clear hF
  go_enter Try.func31, Try.ntmps31
  go_wp2_with fail
  refine (markT ts t HNE.out lo hi _ _ _ _ f _ HN.out hb HBS.out HT.out hk (by omega) (hr.later HB0.out)).mono ?_
  rintro e w1 ⟨rfl, ht1, ho1⟩
  have HT1 := hide ((Touch.of_below HB0.out).trans ht1)
  have HO1 := hide ho1
  clear ht1 ho1
  rw [HF.out]
  go_wp2_with fail
  go_ret
  exact ⟨rfl, HT1.out, HO1.out⟩
end Go.Proofs.Ytaejgmdeiemhcab
namespace Go.Proofs.Ytaejgmdeiemhcab
open Go Go.RowKit
theorem al_below {a b : World} {o : Obj} (h : a = b.alloc o) : Below b.heap.size b a := h ▸ (Below.refl _ _).alloc (Nat.le_refl _) _
theorem al_drew_below {a b : World} {o : Obj} (h : a = (b.alloc o).drew) : Below b.heap.size b a := h ▸ ((Below.refl _ _).alloc (Nat.le_refl _) _).drew
theorem blk_al {a b : World} {t : TypeId} {cs : List Value} (h : a = b.alloc (.cells cs.toArray t)) : Blk a b.heap.size t cs := h ▸ Blk.new _ _ _
theorem blk_al_drew {a b : World} {t : TypeId} {cs : List Value} (h : a = (b.alloc (.cells cs.toArray t)).drew) : Blk a b.heap.size t cs := h ▸ (Blk.new _ _ _ : Blk (b.alloc (.cells cs.toArray t)) _ _ _)
end Go.Proofs.Ytaejgmdeiemhcab
namespace Go.Proofs.Ytaejgmdeiemhcab
open Go Go.RowKit

theorem ObjZ.set {ts t : TypeId} {lo hi : Nat} {w : World} {A B : Option Addr} {f s : List (List Int)} (h : ObjZ ts t lo hi w A f B s) {p : Addr} (hp : p.block < lo ∨ hi ≤ p.block) (v : Value) : ObjZ ts t lo hi (w.setCell p v) A f B s := by
  obtain ⟨mid, h1, h2, h3, h4⟩ := h
  exact ⟨mid, h1, h2, h3.set (by omega) v, h4.set (by omega) v⟩
theorem ObjW.set {ts t : TypeId} {lo hi : Nat} {w : World} {A B : Option Addr} {f s : List (List Int)} (h : ObjW ts t lo hi w A f B s) {p : Addr} (hp : p.block < lo ∨ hi ≤ p.block) (v : Value) : ObjW ts t lo hi (w.setCell p v) A f B s :=
  ⟨h.1.set hp v, h.2.set hp v⟩

/-- The two tables of a result are laid into its box. -/
theorem zend {ts t tz : TypeId} {w w2 w3 wf : World} {r : Nat} {A B : Option Addr} {n c m d : Nat} {f s : List (List Int)} {u v : Value} (hwf : wf = (w3.setCell ⟨r, 0, none⟩ (.slice A n c)).setCell ⟨r, 1, none⟩ (.slice B m d)) (hr : Blk w3 r tz [u, v]) (hr0 : w.heap.size ≤ r) (hr2 : r < w2.heap.size) (hb : Below w.heap.size w w3) (h2 : w.heap.size ≤ w2.heap.size) (ho : ObjZ ts t w2.heap.size w3.heap.size w3 A f B s) :
    wf.cell? ⟨r, 0, none⟩ = some (.slice A n c) ∧ wf.cell? ⟨r, 1, none⟩ = some (.slice B m d) ∧ Below w.heap.size w wf ∧ ObjZ ts t w.heap.size wf.heap.size wf A f B s := by
  have hR : Blk wf r tz [.slice A n c, .slice B m d] := by rw [hwf]; exact (hr.set 0 _).set 1 _
  refine ⟨hR.cell 0 _ rfl, hR.cell 1 _ rfl, ?_, ?_⟩
  · rw [hwf]; exact (hb.setCell (p := ⟨r, 0, none⟩) hr0 _).setCell (p := ⟨r, 1, none⟩) hr0 _
  · rw [hwf]; exact ((ho.set (p := ⟨r, 0, none⟩) (.inl hr2) _).set (p := ⟨r, 1, none⟩) (.inl hr2) _).mono h2 (by simp [World.setCell])
theorem wend {ts t tz : TypeId} {w w2 w3 wf : World} {r : Nat} {A B : Option Addr} {n c m d : Nat} {f s : List (List Int)} {u v : Value} (hwf : wf = (w3.setCell ⟨r, 0, none⟩ (.slice A n c)).setCell ⟨r, 1, none⟩ (.slice B m d)) (hr : Blk w3 r tz [u, v]) (hr0 : w.heap.size ≤ r) (hr2 : r < w2.heap.size) (hb : Below w.heap.size w w3) (h2 : w.heap.size ≤ w2.heap.size) (ho : ObjW ts t w2.heap.size w3.heap.size w3 A f B s) :
    wf.cell? ⟨r, 0, none⟩ = some (.slice A n c) ∧ wf.cell? ⟨r, 1, none⟩ = some (.slice B m d) ∧ Below w.heap.size w wf ∧ ObjW ts t w.heap.size wf.heap.size wf A f B s := by
  have hR : Blk wf r tz [.slice A n c, .slice B m d] := by rw [hwf]; exact (hr.set 0 _).set 1 _
  refine ⟨hR.cell 0 _ rfl, hR.cell 1 _ rfl, ?_, ?_⟩
  · rw [hwf]; exact (hb.setCell (p := ⟨r, 0, none⟩) hr0 _).setCell (p := ⟨r, 1, none⟩) hr0 _
  · rw [hwf]; exact ((ho.set (p := ⟨r, 0, none⟩) (.inl hr2) _).set (p := ⟨r, 1, none⟩) (.inl hr2) _).mono h2 (by simp [World.setCell])

/-- A table among the blocks from lo on. -/
def ObjT (ts t : TypeId) (lo : Nat) (w : World) (A : Option Addr) (rows : List (List Int)) : Prop := Obj2 ts t lo w.heap.size w A rows
theorem ObjT.of {ts t : TypeId} {lo lo' hi : Nat} {w : World} {A : Option Addr} {rows : List (List Int)} (h : Obj2 ts t lo hi w A rows) (h1 : lo' ≤ lo) (h2 : hi ≤ w.heap.size) : ObjT ts t lo' w A rows := h.mono h1 h2
theorem ObjT.later {ts t : TypeId} {lo : Nat} {w w' : World} {A : Option Addr} {rows : List (List Int)} (h : ObjT ts t lo w A rows) (hb : Below w.heap.size w w') : ObjT ts t lo w' A rows := (Obj2.later h hb).mono (Nat.le_refl _) hb.size
theorem ObjT.rd {ts t : TypeId} {lo : Nat} {w : World} {A : Option Addr} {rows : List (List Int)} (h : ObjT ts t lo w A rows) : Rd2 w A rows := Obj2.rd h
theorem wend2 {ts t tz : TypeId} {w w3 wf : World} {r : Nat} {A B : Option Addr} {n c m d : Nat} {f s : List (List Int)} {u v : Value} (hwf : wf = (w3.setCell ⟨r, 0, none⟩ (.slice A n c)).setCell ⟨r, 1, none⟩ (.slice B m d)) (hr : Blk w3 r tz [u, v]) (hr0 : w.heap.size ≤ r) (hb : Below w.heap.size w w3) (h1 : ObjT ts t (r + 1) w3 A f) (h2 : ObjT ts t (r + 1) w3 B s) :
    wf.cell? ⟨r, 0, none⟩ = some (.slice A n c) ∧ wf.cell? ⟨r, 1, none⟩ = some (.slice B m d) ∧ Below w.heap.size w wf ∧ ObjW ts t w.heap.size wf.heap.size wf A f B s := by
  have hR : Blk wf r tz [.slice A n c, .slice B m d] := by rw [hwf]; exact (hr.set 0 _).set 1 _
  have ho : ObjW ts t (r + 1) w3.heap.size w3 A f B s := ⟨h1, h2⟩
  refine ⟨hR.cell 0 _ rfl, hR.cell 1 _ rfl, ?_, ?_⟩
  · rw [hwf]; exact (hb.setCell (p := ⟨r, 0, none⟩) hr0 _).setCell (p := ⟨r, 1, none⟩) hr0 _
  · rw [hwf]; exact ((ho.set (p := ⟨r, 0, none⟩) (.inl (Nat.lt_succ_self r)) _).set (p := ⟨r, 1, none⟩) (.inl (Nat.lt_succ_self r)) _).mono (by omega) (by simp [World.setCell])
end Go.Proofs.Ytaejgmdeiemhcab
