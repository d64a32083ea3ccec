import Derived.Test.YtkagfjofjbpfeaaZs
import Derived.Test.YtkagfjofjbpfeaaZaa
import Derived.Test.YtkagfjofjbpfeaaZd
import Derived.StillTailTactics
namespace Go.Proofs.Ytkagfjofjbpfeaa
open Go Go.RowKit
set_option maxHeartbeats 2000000

set_option maxRecDepth 100000 in
theorem renameInto_any (g lo hi : Nat) (G : Nat → Nat) (n cu : Nat) (f : Nat → Nat → Int) (A : Option Addr) (c : Nat) (rows : List (List Int)) (D : Option Addr) (d : Nat) (p : List Int) (w0 w : World)
    (hn : rows.length = n) (hm : p.length = n) (hb : n ≤ 1048576) (hbs : ∀ i, i < rows.length → (rows.getD i []).length = n) (hin : ∀ i j, i < n → j < n → 0 ≤ (rows.getD i []).getD j 0 ∧ (rows.getD i []).getD j 0 < (n : Int)) (hpin : ∀ x ∈ p, 0 ≤ x ∧ x < (n : Int))
    (hr : Rd2 w0 A rows) (hp : Rd w0 D p) (hbe : Below w0.heap.size w0 w) (hlo : w0.heap.size ≤ lo) (hG : ∀ i, i < n → lo ≤ G i ∧ G i < hi) (htab : TabF 31 2 w g G n f) :
    Calls Try.prog 67 #[.slice (some ⟨g, 0, none⟩) n cu, .slice A n c, .slice D n d] w fun e w' => e = .returned (.tuple #[]) ∧ Touch lo hi w w' ∧ TabF 31 2 w' g G n (renTo rows p n n f) ∧ w'.heap.size = w.heap.size := by
  have HN := hide hn
  have HM := hide hm
  have HBE := hide hbe
  have HT := hide htab
  clear hn hm hbe htab
  go_enter Try.func67, Try.ntmps67
  go_wp2_with fail
  go_loopw [12] (fun i wr => ∃ x : Nat, x ≤ n ∧ i = .int .i64 x ∧ Touch lo hi w wr ∧ TabF 31 2 wr g G n (renTo rows p n x f) ∧ wr.heap.size = w.heap.size) (fun i _ => n - (intOf i).toNat)
  case atStart => exact ⟨0, Nat.zero_le _, rfl, Touch.refl _ _ _, HT.out, rfl⟩
  case round =>
    obtain ⟨x, hx, rfl, ht, htab, hsz⟩ := hrel
    have HTC := hide ht
    have HT2 := hide htab
    have HS2 := hide hsz
    clear ht htab hsz
    by_cases hlt : x < n
    · have HB2 : Hid (Below w0.heap.size w0 wr) := hide (HTC.out.below HBE.out HBE.out.size hlo)
      obtain ⟨b, o, rfl, hbw, hc⟩ := hr (by have := HN.out; omega)
      obtain ⟨Ax, cx, hcell, hrd⟩ := hc x (by have := HN.out; omega)
      have hl := hbs x (by have := HN.out; omega)
      obtain ⟨r, hx'⟩ : ∃ r, r = rows.getD x [] := ⟨_, rfl⟩
      rw [← hx'] at hcell hrd hl
      rw [hl] at hcell
      have HX := hide hx'
      have HL := hide hl
      have hcell' : wr.cell? ⟨b, o + x, none⟩ = some (.slice Ax n cx) := (HB2.out.cell (p := ⟨b, o + x, none⟩) hbw).trans hcell
      obtain ⟨px, hpx, hpxn⟩ := elem_range hpin (i := x) (by have := HM.out; omega)
      have HPX := hide hpx
      obtain ⟨b3, o3, rfl, hbw3, hc3⟩ := hp (by have := HM.out; omega)
      have HC3 := hide hc3
      have HHIN := hide hin
      have HPIN := hide hpin
      have HHG := hide hG
      clear hx' hc hl hcell hbs hpx hc3 hin hpin hG
      have hltz : (x : Int) < n := by omega
      have hpxz : (px : Int) < n := by omega
      go_wp2_with fail
      obtain ⟨wo, rfl⟩ : ∃ wo : World, wo = wr := ⟨_, rfl⟩
      go_loopw [19] (fun i wi => ∃ y : Nat, y ≤ n ∧ i = .int .i64 y ∧ Touch lo hi w wi ∧ TabF 31 2 wi g G n (renRow rows p x y (renTo rows p n x f)) ∧ wi.heap.size = w.heap.size) (fun i _ => n - (intOf i).toNat)
      case atStart => exact ⟨0, Nat.zero_le _, rfl, HTC.out, HT2.out, HS2.out⟩
      case round =>
        obtain ⟨y, hy, rfl, hti, htabi, hsi⟩ := hrel
        have HTI := hide hti
        have HTB := hide htabi
        have HSI := hide hsi
        clear hti htabi hsi
        by_cases hlty : y < n
        · have HB3 : Hid (Below w0.heap.size w0 wr) := hide (HTI.out.below HBE.out HBE.out.size hlo)
          obtain ⟨b2, o2, rfl, hbw2, hc2⟩ := hrd (by have := HL.out; omega)
          have hv : wr.cell? ⟨b2, o2 + y, none⟩ = some (.int .i64 (r.getD y 0)) := (HB3.out.cell (p := ⟨b2, o2 + y, none⟩) hbw2).trans (hc2 y (by have := HL.out; omega))
          have hzr := HHIN.out x y hlt hlty
          rw [← HX.out] at hzr
          obtain ⟨z, hz⟩ := Int.eq_ofNat_of_zero_le hzr.1
          rw [hz] at hv
          have hzn : z < n := by have := hzr.2; omega
          have HZ := hide hz
          obtain ⟨py, hpy, hpyn⟩ := elem_range HPIN.out (i := y) (by have := HM.out; omega)
          have HPY := hide hpy
          obtain ⟨q, hq⟩ : ∃ q, p.getD z 0 = q := ⟨_, rfl⟩
          have HQ := hide hq
          have e1 : wr.cell? ⟨b3, o3 + x, none⟩ = some (.int .i64 px) := by rw [← HPX.out]; exact (HB3.out.cell (p := ⟨b3, o3 + x, none⟩) hbw3).trans (HC3.out x (by have := HM.out; omega))
          have e2 : wr.cell? ⟨b3, o3 + y, none⟩ = some (.int .i64 py) := by rw [← hpy]; exact (HB3.out.cell (p := ⟨b3, o3 + y, none⟩) hbw3).trans (HC3.out y (by have := HM.out; omega))
          have e3 : wr.cell? ⟨b3, o3 + z, none⟩ = some (.int .i64 q) := by rw [← hq]; exact (HB3.out.cell (p := ⟨b3, o3 + z, none⟩) hbw3).trans (HC3.out z (by have := HM.out; omega))
          obtain ⟨C, htop⟩ := HTB.out.top
          have e4 : wr.cell? ⟨g, px, none⟩ = some (.slice (some ⟨G px, 0, none⟩) n (C px)) := htop.cell hpxn
          have e5 := (HTB.out.row px hpxn).cell hpyn
          obtain ⟨old, hold⟩ : ∃ q, renRow rows p x y (renTo rows p n x f) px py = q := ⟨_, rfl⟩
          rw [hold] at e5
          have e6 : wr.frozen? ⟨G px, py, none⟩ = false := (HTB.out.row px hpxn).frozen py
          clear hz hzr hold hc2 hrd hcell' htop hpy hq
          have hltyz : (y : Int) < n := by omega
          have hpyz : (py : Int) < n := by omega
          have hzz : (z : Int) < n := by omega
          go_wp2_with fail
          go_still_tail 16, (by kernel_rfl)
          change wpList _ _ _ _ _ wr.drew
          go_wp2_with fail
          go_roundw
          case rel =>
            have hset := HTB.out.set px py q hpxn
            refine ⟨y + 1, by omega, by go_num, ?_, ?_, by have := HSI.out; simpa [World.setCell, World.drew] using this⟩
            · have h1 := HTI.out
              have hg := HHG.out px hpxn
              exact ⟨h1.os, h1.tape, h1.output, by have := h1.size; simpa [World.setCell, World.drew] using this, fun i hi hne => (Below.heap_setCell _ _ _ _ (by show i ≠ G px; omega)).trans (h1.block i hi hne)⟩
            · have h2 : TabF 31 2 ((wr.setCell ⟨G px, py, none⟩ (.int .i64 q)).drew) g G n (fun a b => if a = px ∧ b = py then q else renRow rows p x y (renTo rows p n x f) a b) := ⟨hset.top, hset.row, hset.ne, hset.inj⟩
              refine h2.congr (fun a b _ _ => ?_)
              have e1 : (p.getD x 0).toNat = px := by rw [HPX.out]; simp
              have e2 : (p.getD y 0).toNat = py := by rw [HPY.out]; simp
              have e3 : ((rows.getD x []).getD y 0).toNat = z := by rw [← HX.out, HZ.out]; simp
              simp only [renRow]
              rw [e1, e2, e3, HQ.out]
          case measure => simp [intOf]; omega
        · have hyn : y = n := by omega
          subst hyn
          go_wp2_with fail
          go_roundw
          case rel => exact ⟨x + 1, by omega, by go_num, HTI.out, HTB.out, HSI.out⟩
          case measure => simp [intOf]; omega
    · have hxn : x = n := by omega
      subst hxn
      go_wp2_with fail
      go_end0
      exact ⟨rfl, HTC.out, HT2.out, HS2.out⟩
end Go.Proofs.Ytkagfjofjbpfeaa
