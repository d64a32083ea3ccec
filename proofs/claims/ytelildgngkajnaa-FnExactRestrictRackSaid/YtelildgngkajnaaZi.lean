import Derived.Test.YtelildgngkajnaaZf
import Derived.Test.YtelildgngkajnaaZc
import Derived.Test.YtelildgngkajnaaProg
import Derived.Test.YtelildgngkajnaaZa
namespace Go.Proofs.Ytelildgngkajnaa
open Go Go.RowKit
set_option maxHeartbeats 1000000

theorem eqGroup (A B : Option Addr) (n c m d : Nat) (f g : List (List Int)) (r : Bool) (w : World) (hn : f.length = n) (hm : g.length = m) (hb : n ≤ 1048576) (hb2 : m ≤ 1048576)
    (hbs : ∀ i, i < f.length → (f.getD i []).length ≤ 1048576) (hbt : ∀ i, i < g.length → (g.getD i []).length ≤ 1048576) (hx : Rd2 w A f) (hy : Rd2 w B g) (hr : r = true ↔ f = g) :
    Calls Try.prog 15 #[.agg #[.slice A n c], .agg #[.slice B m d]] w fun e w' => e = .returned (.bool r) ∧ Below w.heap.size w w' := by
  have HN := hide hn
  have HM := hide hm
  have HBS := hide hbs
  have HBT := hide hbt
  clear hn hm hbs hbt
  have HB0 := hide (((Below.refl _ w).alloc (Nat.le_refl _) (Obj.cells #[Value.slice A n c] 24)).alloc (by simp) (Obj.cells #[Value.slice B m d] 24))
  cases r
  · have HR := hide hr
    clear hr
    go_enter Try.func15, Try.ntmps15
    go_wp2_with fail
    refine (eqq_any _ _ _ _ _ _ f g false _ HN.out HM.out (by omega) (by omega) (fun i hi => by have := HBS.out i hi; omega) (fun i hi => by have := HBT.out i hi; omega) (hx.later HB0.out) (hy.later HB0.out) (by simpa using HR.out)).mono ?_
    rintro e w1 ⟨rfl, hq1⟩
    have HB1 := hide (HB0.out.trans (hq1.below _))
    clear hq1
    go_wp2_with fail
    go_ret
    exact ⟨rfl, HB1.out⟩
  · have HR := hide hr
    clear hr
    go_enter Try.func15, Try.ntmps15
    go_wp2_with fail
    refine (eqq_any _ _ _ _ _ _ f g true _ HN.out HM.out (by omega) (by omega) (fun i hi => by have := HBS.out i hi; omega) (fun i hi => by have := HBT.out i hi; omega) (hx.later HB0.out) (hy.later HB0.out) (by simpa using HR.out)).mono ?_
    rintro e w1 ⟨rfl, hq1⟩
    have HB1 := hide (HB0.out.trans (hq1.below _))
    clear hq1
    go_wp2_with fail
    go_ret
    exact ⟨rfl, HB1.out⟩
theorem markGroup (ts t : TypeId) (hne : ts ≠ t) (lo hi : Nat) (A : Option Addr) (n c : Nat) (k : Int) (f : List (List Int)) (w : World) (hn : f.length = n) (hb : n ≤ 1048576) (hbs : ∀ i, i < f.length → (f.getD i []).length ≤ 1048576) (ht : tot f ≤ 2305843009213693952) (hk : 0 ≤ k) (hk2 : k ≤ 1152921504606846976) (hr : Obj2 ts t lo hi w A f) :
    Calls Try.prog 16 #[.agg #[.slice A n c], .int .i64 k] w fun e w' => e = .returned (.int .i64 (k + (tot f : Int))) ∧ Touch lo hi w w' ∧ Obj2 ts t lo hi w' A (marks2 k f) := by
  have HNE := hide hne
  have HN := hide hn
  have HBS := hide hbs
  have HT := hide ht
  have HB0 := hide ((Below.refl _ w).alloc (Nat.le_refl _) (Obj.cells #[Value.slice A n c] 24))
  have htf : tot f ≤ 1099511627776 := tot_bound f (by omega) hbs
  clear hne hn hbs ht
  obtain ⟨F, hF⟩ : ∃ F, tot f = F := ⟨_, rfl⟩
  rw [hF] at htf ⊢
  have HF := hide hF
  clear hF
  go_enter Try.func16, Try.ntmps16
  go_wp2_with fail
  refine (markT ts t HNE.out lo hi _ _ _ _ f _ HN.out hb HBS.out HT.out hk (by omega) (hr.later HB0.out)).mono ?_
  rintro e w1 ⟨rfl, ht1, ho1⟩
  have HT1 := hide ((Touch.of_below HB0.out).trans ht1)
  have HO1 := hide ho1
  clear ht1 ho1
  rw [HF.out]
  go_wp2_with fail
  go_ret
  exact ⟨rfl, HT1.out, HO1.out⟩
theorem heldGroup (A : Option Addr) (n c : Nat) (k : Int) (f : List (List Int)) (w : World) (hn : f.length = n) (hb : n ≤ 1048576) (hbs : ∀ i, i < f.length → (f.getD i []).length ≤ 1048576) (ht : tot f ≤ 2305843009213693952) (hk : 0 ≤ k) (hk2 : k ≤ 1152921504606846976) (hf : Rd2 w A (marks2 k f)) :
    Calls Try.prog 17 #[.agg #[.slice A n c], .int .i64 k] w fun e w' => e = .returned (.int .i64 (k + (tot f : Int))) ∧ Below w.heap.size w w' := by
  have HN := hide hn
  have HBS := hide hbs
  have HT := hide ht
  have HB0 := hide ((Below.refl _ w).alloc (Nat.le_refl _) (Obj.cells #[Value.slice A n c] 24))
  have htf : tot f ≤ 1099511627776 := tot_bound f (by omega) hbs
  clear hn hbs ht
  have HRF := hide hf
  clear hf
  obtain ⟨F, hF⟩ : ∃ F, tot f = F := ⟨_, rfl⟩
  rw [hF] at htf ⊢
  have HF := hide hF
  clear hF
  go_enter Try.func17, Try.ntmps17
  go_wp2_with fail
  refine (heldT _ _ _ _ f _ HN.out hb HBS.out HT.out hk (by omega) (HRF.out.later HB0.out)).mono ?_
  rintro e w1 ⟨rfl, hq1⟩
  have HB1 := hide (HB0.out.trans (hq1.below _))
  clear hq1
  rw [HF.out]
  have hn1 : ¬ (k + (F : Int) < 0) := by omega
  go_wp2_with fail
  go_ret
  exact ⟨rfl, HB1.out⟩
end Go.Proofs.Ytelildgngkajnaa
namespace Go.Proofs.Ytelildgngkajnaa
open Go Go.RowKit
set_option maxHeartbeats 1000000

theorem ntInfo : (Try.prog.info? 2).map (fun i => (i.zero, i.size, i.bytes)) = some (some (.int .i64 0), 1, 8) := by kernel_rfl
theorem ntInfo2 : (Try.prog.info? 48).map (fun i => (i.zero, i.size, i.bytes)) = some (some (.slice none 0 0), 1, 24) := by kernel_rfl

structure NtRel (w wr : World) (n k : Nat) : Prop where
  below : Below w.heap.size w wr
  size : wr.heap.size = w.heap.size + 1 + k
  top : wr.rowIs w.heap.size 48 n (fun i => if i < k then .slice (some ⟨w.heap.size + 1 + i, 0, none⟩) n n else .slice none 0 0)
  row : ∀ i, i < k → wr.rowIs (w.heap.size + 1 + i) 2 n (fun _ => .int .i64 0)

theorem NtRel.start (w : World) (n : Nat) : NtRel w (w.alloc (.cells (madeCells #[.slice none 0 0] n) 48)) n 0 :=
  ⟨(Below.refl _ _).alloc (Nat.le_refl _) _, by simp, (World.rowIs_made w _ n _).congr (fun j _ => by simp), fun i hi => absurd hi (Nat.not_lt_zero _)⟩

theorem NtRel.step {w wr : World} {n k : Nat} (h : NtRel w wr n k) (_hk : k < n) :
    NtRel w ((wr.alloc (.cells (madeCells #[.int .i64 0] n) 2)).setCell ⟨w.heap.size, k, none⟩ (.slice (some ⟨wr.heap.size, 0, none⟩) n n)) n (k + 1) := by
  have hsz := h.size
  have hnew := World.rowIs_made wr (.int .i64 0) n 2
  rw [hsz] at hnew
  refine ⟨(h.below.alloc (by omega) _).setCell (Nat.le_refl _) _, by simp [World.setCell]; omega, ((h.top.alloc _).set k _).congr (fun j _ => ?_), fun i hi => ?_⟩
  · by_cases e : j = k
    · subst e; rw [if_pos rfl, if_pos (by omega), hsz]
    · rw [if_neg e]
      by_cases hlt : j < k
      · rw [if_pos hlt, if_pos (by omega)]
      · rw [if_neg hlt, if_neg (by omega)]
  · by_cases e : i = k
    · subst e
      exact hnew.setOther (by show w.heap.size + 1 + i ≠ w.heap.size; omega) _
    · exact ((h.row i (by omega)).alloc _).setOther (by show w.heap.size + 1 + i ≠ w.heap.size; omega) _

theorem newTable_any (n : Nat) (w : World) (hb : n ≤ 1048576) :
    Calls Try.prog 162 #[.int .i64 n] w fun e w' => e = .returned (.slice (some ⟨w.heap.size, 0, none⟩) n n) ∧ Below w.heap.size w w' ∧ TabF 48 2 w' w.heap.size (fun i => w.heap.size + 1 + i) n (fun _ _ => 0) ∧ w'.heap.size = w.heap.size + 1 + n := by
  have hmk := run_make_row' (P := Try.prog) 22 48 (.slice none 0 0) 24 Try.underlying22 ntInfo2 rfl .i64 .i64 n (by omega) (by omega)
  have hmk2 := run_make_row' (P := Try.prog) 48 2 (.int .i64 0) 8 Try.underlying48 ntInfo rfl .i64 .i64 n (by omega) (by omega)
  go_enter Try.func162, Try.ntmps162
  go_wp2_with fail
  clear hmk
  go_loopw [9] (fun i wr => ∃ k : Nat, k ≤ n ∧ i = .int .i64 k ∧ NtRel w wr n k) (fun i _ => n - (intOf i).toNat)
  case atStart => exact ⟨0, Nat.zero_le _, rfl, NtRel.start w n⟩
  case round =>
    obtain ⟨k, hk, rfl, hrel⟩ := hrel
    have HR := hide hrel
    clear hrel
    by_cases hlt : k < n
    · have hltz : (k : Int) < n := by omega
      have h1 : ∀ o, (wr.alloc o).cell? ⟨w.heap.size, k, none⟩ = some (.slice none 0 0) := fun o => by
        have := (HR.out.top.alloc o).cell hlt
        simpa using this
      have h2 : ∀ o, (wr.alloc o).frozen? ⟨w.heap.size, k, none⟩ = false := fun o => (HR.out.top.alloc o).frozen k
      go_wp2_with fail
      go_roundw
      case rel => exact ⟨k + 1, by omega, by go_num, HR.out.step hlt⟩
      case measure => simp [intOf]; omega
    · have hkn : k = n := by omega
      subst hkn
      go_wp2_with fail
      go_ret
      have h := HR.out
      exact ⟨rfl, h.below, ⟨⟨fun _ => k, .of_row (h.top.congr (fun j hj => by rw [if_pos hj]))⟩, fun i hi => .of_row (h.row i hi), fun i _ => by omega, fun i j _ _ hne => by omega⟩, h.size⟩
end Go.Proofs.Ytelildgngkajnaa
namespace Go.Proofs.Ytelildgngkajnaa
open Go Go.RowKit

theorem ObjZ.set {ts t : TypeId} {lo hi : Nat} {w : World} {A B : Option Addr} {f s : List (List Int)} (h : ObjZ ts t lo hi w A f B s) {p : Addr} (hp : p.block < lo ∨ hi ≤ p.block) (v : Value) : ObjZ ts t lo hi (w.setCell p v) A f B s := by
  obtain ⟨mid, h1, h2, h3, h4⟩ := h
  exact ⟨mid, h1, h2, h3.set (by omega) v, h4.set (by omega) v⟩
theorem ObjW.set {ts t : TypeId} {lo hi : Nat} {w : World} {A B : Option Addr} {f s : List (List Int)} (h : ObjW ts t lo hi w A f B s) {p : Addr} (hp : p.block < lo ∨ hi ≤ p.block) (v : Value) : ObjW ts t lo hi (w.setCell p v) A f B s :=
  ⟨h.1.set hp v, h.2.set hp v⟩

/-- The two tables of a result are laid into its box. -/
theorem zend {ts t tz : TypeId} {w w2 w3 wf : World} {r : Nat} {A B : Option Addr} {n c m d : Nat} {f s : List (List Int)} {u v : Value} (hwf : wf = (w3.setCell ⟨r, 0, none⟩ (.slice A n c)).setCell ⟨r, 1, none⟩ (.slice B m d)) (hr : Blk w3 r tz [u, v]) (hr0 : w.heap.size ≤ r) (hr2 : r < w2.heap.size) (hb : Below w.heap.size w w3) (h2 : w.heap.size ≤ w2.heap.size) (ho : ObjZ ts t w2.heap.size w3.heap.size w3 A f B s) :
    wf.cell? ⟨r, 0, none⟩ = some (.slice A n c) ∧ wf.cell? ⟨r, 1, none⟩ = some (.slice B m d) ∧ Below w.heap.size w wf ∧ ObjZ ts t w.heap.size wf.heap.size wf A f B s := by
  have hR : Blk wf r tz [.slice A n c, .slice B m d] := by rw [hwf]; exact (hr.set 0 _).set 1 _
  refine ⟨hR.cell 0 _ rfl, hR.cell 1 _ rfl, ?_, ?_⟩
  · rw [hwf]; exact (hb.setCell (p := ⟨r, 0, none⟩) hr0 _).setCell (p := ⟨r, 1, none⟩) hr0 _
  · rw [hwf]; exact ((ho.set (p := ⟨r, 0, none⟩) (.inl hr2) _).set (p := ⟨r, 1, none⟩) (.inl hr2) _).mono h2 (by simp [World.setCell])
theorem wend {ts t tz : TypeId} {w w2 w3 wf : World} {r : Nat} {A B : Option Addr} {n c m d : Nat} {f s : List (List Int)} {u v : Value} (hwf : wf = (w3.setCell ⟨r, 0, none⟩ (.slice A n c)).setCell ⟨r, 1, none⟩ (.slice B m d)) (hr : Blk w3 r tz [u, v]) (hr0 : w.heap.size ≤ r) (hr2 : r < w2.heap.size) (hb : Below w.heap.size w w3) (h2 : w.heap.size ≤ w2.heap.size) (ho : ObjW ts t w2.heap.size w3.heap.size w3 A f B s) :
    wf.cell? ⟨r, 0, none⟩ = some (.slice A n c) ∧ wf.cell? ⟨r, 1, none⟩ = some (.slice B m d) ∧ Below w.heap.size w wf ∧ ObjW ts t w.heap.size wf.heap.size wf A f B s := by
  have hR : Blk wf r tz [.slice A n c, .slice B m d] := by rw [hwf]; exact (hr.set 0 _).set 1 _
  refine ⟨hR.cell 0 _ rfl, hR.cell 1 _ rfl, ?_, ?_⟩
  · rw [hwf]; exact (hb.setCell (p := ⟨r, 0, none⟩) hr0 _).setCell (p := ⟨r, 1, none⟩) hr0 _
  · rw [hwf]; exact ((ho.set (p := ⟨r, 0, none⟩) (.inl hr2) _).set (p := ⟨r, 1, none⟩) (.inl hr2) _).mono h2 (by simp [World.setCell])

/-- A table among the blocks from lo on. -/
def ObjT (ts t : TypeId) (lo : Nat) (w : World) (A : Option Addr) (rows : List (List Int)) : Prop := Obj2 ts t lo w.heap.size w A rows
theorem ObjT.of {ts t : TypeId} {lo lo' hi : Nat} {w : World} {A : Option Addr} {rows : List (List Int)} (h : Obj2 ts t lo hi w A rows) (h1 : lo' ≤ lo) (h2 : hi ≤ w.heap.size) : ObjT ts t lo' w A rows := h.mono h1 h2
theorem ObjT.later {ts t : TypeId} {lo : Nat} {w w' : World} {A : Option Addr} {rows : List (List Int)} (h : ObjT ts t lo w A rows) (hb : Below w.heap.size w w') : ObjT ts t lo w' A rows := (Obj2.later h hb).mono (Nat.le_refl _) hb.size
theorem ObjT.rd {ts t : TypeId} {lo : Nat} {w : World} {A : Option Addr} {rows : List (List Int)} (h : ObjT ts t lo w A rows) : Rd2 w A rows := Obj2.rd h
theorem wend2 {ts t tz : TypeId} {w w3 wf : World} {r : Nat} {A B : Option Addr} {n c m d : Nat} {f s : List (List Int)} {u v : Value} (hwf : wf = (w3.setCell ⟨r, 0, none⟩ (.slice A n c)).setCell ⟨r, 1, none⟩ (.slice B m d)) (hr : Blk w3 r tz [u, v]) (hr0 : w.heap.size ≤ r) (hb : Below w.heap.size w w3) (h1 : ObjT ts t (r + 1) w3 A f) (h2 : ObjT ts t (r + 1) w3 B s) :
    wf.cell? ⟨r, 0, none⟩ = some (.slice A n c) ∧ wf.cell? ⟨r, 1, none⟩ = some (.slice B m d) ∧ Below w.heap.size w wf ∧ ObjW ts t w.heap.size wf.heap.size wf A f B s := by
  have hR : Blk wf r tz [.slice A n c, .slice B m d] := by rw [hwf]; exact (hr.set 0 _).set 1 _
  have ho : ObjW ts t (r + 1) w3.heap.size w3 A f B s := ⟨h1, h2⟩
  refine ⟨hR.cell 0 _ rfl, hR.cell 1 _ rfl, ?_, ?_⟩
  · rw [hwf]; exact (hb.setCell (p := ⟨r, 0, none⟩) hr0 _).setCell (p := ⟨r, 1, none⟩) hr0 _
  · rw [hwf]; exact ((ho.set (p := ⟨r, 0, none⟩) (.inl (Nat.lt_succ_self r)) _).set (p := ⟨r, 1, none⟩) (.inl (Nat.lt_succ_self r)) _).mono (by omega) (by simp [World.setCell])
end Go.Proofs.Ytelildgngkajnaa
namespace Go.Proofs.Ytelildgngkajnaa
open Go Go.RowKit
set_option maxHeartbeats 1000000

theorem isSize_any (x : Int) (r : Bool) (w : World) (hr : r = true ↔ 1 ≤ x ∧ x ≤ 12) :
    Calls Try.prog 73 #[.int .i64 x] w fun e w' => e = .returned (.bool r) ∧ Quiet w w' := by
  have HR := hide hr
  clear hr
  by_cases h1 : 1 ≤ x
  · by_cases h2 : x ≤ 12
    · have : r = true := HR.out.2 ⟨h1, h2⟩
      subst this
      go_enter Try.func73, Try.ntmps73
      go_wp2_with fail
      go_ret
      exact ⟨rfl, Quiet.refl _⟩
    · have : r = false := by
        cases r
        · rfl
        · exact absurd (HR.out.1 rfl).2 h2
      subst this
      have h2' : decide (x ≤ 12) = false := by simpa using h2
      clear h2
      go_enter Try.func73, Try.ntmps73
      go_wp2_with fail
      go_ret
      exact ⟨rfl, Quiet.refl _⟩
  · have : r = false := by
      cases r
      · rfl
      · exact absurd (HR.out.1 rfl).1 h1
    subst this
    have h1' : decide (1 ≤ x) = false := by simpa using h1
    clear h1
    go_enter Try.func73, Try.ntmps73
    go_wp2_with fail
    go_ret
    exact ⟨rfl, Quiet.refl _⟩
end Go.Proofs.Ytelildgngkajnaa
