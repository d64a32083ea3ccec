import Derived.Test.YtelildgngkajnaaZao
import Derived.Test.YtelildgngkajnaaZam
import Derived.Test.YtelildgngkajnaaZw
namespace Go.Proofs.Ytelildgngkajnaa
open Go Go.RowKit
set_option maxHeartbeats 4000000
theorem pgInfo : (Try.prog.info? 117).map (fun i => (i.zero, i.size, i.bytes)) = some (some (.agg #[.int .i64 0, .int .i64 0]), 2, 16) := by kernel_rfl
theorem pg_new {w : World} {u v : Value} {t : TypeId} : ∀ j z, [u, v][j]? = some z → (w.alloc (.cells #[u, v] t)).cell? ((⟨w.heap.size, 0, none⟩ : Addr).add j) = some z := by
  intro j z hj
  match j, hj with
  | 0, hj => simp at hj; subst hj; simp [Addr.add, World.cell?_alloc_new]
  | 1, hj => simp at hj; subst hj; simp [Addr.add, World.cell?_alloc_new]
set_option maxRecDepth 100000 in
theorem pgI_any (A : Option Addr) (n c : Nat) (f : List (List Int)) (C : Option Addr) (q c2 : Nat) (g : List (List Int)) (sz : Nat) (w : World) (hn : f.length = n) (ht : Tbl f) (hr : Rd2 w A f) (hq : g.length = q) (ht2 : Tbl g) (hr2 : Rd2 w C g) (hsz : n * q = sz) (hle : sz ≤ 12) :
    Calls Try.prog 63 #[.agg #[.slice A n c], .agg #[.slice C q c2]] w fun e w' => ∃ A' c', e = .returned (.agg #[.slice A' sz c']) ∧ Below w.heap.size w w' ∧ Obj2 48 2 w.heap.size w'.heap.size w' A' (grid sz (pdH f g q)) := by
  have h1n : 1 ≤ n := by rw [← hn]; exact ht.1
  have h1q : 1 ≤ q := by rw [← hq]; exact ht2.1
  have hn12 : n ≤ 12 := by rw [← hn]; exact ht.2.1
  have hq12 : q ≤ 12 := by rw [← hq]; exact ht2.2.1
  have hsz1 : 1 ≤ sz := by rw [← hsz]; exact Nat.mul_pos h1n h1q
  have HN := hide hn
  have HQ := hide hq
  have HT := hide ht
  have HT2 := hide ht2
  have HF := hide hr
  have HF2 := hide hr2
  have HSZ := hide hsz
  clear hn hq ht ht2 hr hr2 hsz
  have HB0 := hide ((((Below.refl _ w).alloc (Nat.le_refl _) (Obj.cells #[Value.slice A n c] 24)).alloc (by simp) (Obj.cells #[Value.slice C q c2] 24)).alloc (by simp; omega) (Obj.cells #[.slice none 0 0] 24))
  have HG0 := hide (((Blk.new w 24 [.slice A n c]).alloc (Obj.cells #[Value.slice C q c2] 24)).alloc (Obj.cells #[.slice none 0 0] 24))
  have HH0 : Hid (Blk (((w.alloc (Obj.cells #[Value.slice A n c] 24)).alloc (Obj.cells #[Value.slice C q c2] 24)).alloc (Obj.cells #[.slice none 0 0] 24)) (w.heap.size + 1) 24 [.slice C q c2]) := hide (by have h := (Blk.new (w.alloc (Obj.cells #[Value.slice A n c] 24)) 24 [.slice C q c2]).alloc (Obj.cells #[.slice none 0 0] 24); simpa using h)
  have HR0 : Hid (Blk (((w.alloc (Obj.cells #[Value.slice A n c] 24)).alloc (Obj.cells #[Value.slice C q c2] 24)).alloc (Obj.cells #[.slice none 0 0] 24)) (w.heap.size + 1 + 1) 24 [.slice none 0 0]) := hide (by have h := Blk.new ((w.alloc (Obj.cells #[Value.slice A n c] 24)).alloc (Obj.cells #[Value.slice C q c2] 24)) 24 [.slice none 0 0]; simpa using h)
  obtain ⟨i0, hi, hz0, hz1, hz2⟩ := info_parts pgInfo
  go_enter Try.func63, Try.ntmps63
  have k0 := fun o => (HG0.out.alloc o).cell 0 _ rfl
  go_wp2_with fail
  clear k0
  refine calls_gen fun w0 hw0 => ?_
  have hal : Below (((w.alloc (Obj.cells #[Value.slice A n c] 24)).alloc (Obj.cells #[Value.slice C q c2] 24)).alloc (Obj.cells #[.slice none 0 0] 24)).heap.size (((w.alloc (Obj.cells #[Value.slice A n c] 24)).alloc (Obj.cells #[Value.slice C q c2] 24)).alloc (Obj.cells #[.slice none 0 0] 24)) w0 := by rw [hw0]; exact (Below.refl _ _).alloc (Nat.le_refl _) _
  have HO0 : Hid (w0.ownsRow (w.heap.size + 1 + 1 + 1) 117 2 (.slice (some ⟨w.heap.size + 1 + 1 + 1, 0, none⟩) 0 0) 0 (pcells q 0)) := hide (by rw [hw0]; exact ⟨by simp [pcells], .inr ⟨w.heap.size + 1 + 1 + 1, 0, #[], rfl, Nat.le_refl _, by have h := heap_alloc_new (((w.alloc (Obj.cells #[Value.slice A n c] 24)).alloc (Obj.cells #[Value.slice C q c2] 24)).alloc (Obj.cells #[.slice none 0 0] 24)) (.cells #[] 117); simpa using h, Nat.le_refl _, by unfold maxLen; omega, by simp, by simp [pcells]⟩⟩)
  have HB1 := hide (HB0.out.trans (hal.mono HB0.out.size))
  have HG1 := hide (HG0.out.later hal)
  have HH1 := hide (HH0.out.later hal)
  have HR1 := hide (HR0.out.later hal)
  clear hw0 hal
  refine (gsize_any _ n _ _ (by omega)).mono ?_
  rintro e w1 ⟨rfl, hb1⟩
  have HB2 := hide (HB1.out.trans (hb1.mono HB1.out.size))
  have HG2 := hide (HG1.out.later hb1)
  have HH2 := hide (HH1.out.later hb1)
  have HR2 := hide (HR1.out.later hb1)
  have HO2 := hide (ow2_below HO0.out hb1)
  clear hb1 HO0
  go_wp2_with fail
  go_loopw [5, 11] (fun v i wr => ∃ x p : Nat, x ≤ n ∧ p = x * q ∧ i = .int .i64 x ∧ Below w.heap.size w wr ∧ Blk wr w.heap.size 24 [.slice A n c] ∧ Blk wr (w.heap.size + 1) 24 [.slice C q c2] ∧ Blk wr (w.heap.size + 1 + 1) 24 [.slice none 0 0] ∧ wr.ownsRow (w.heap.size + 1 + 1 + 1) 117 2 v p (pcells q p)) (fun _ i _ => n - (intOf i).toNat)
  case atStart => exact ⟨0, 0, Nat.zero_le _, by simp, rfl, HB2.out, HG2.out, HH2.out, HR2.out, HO2.out⟩
  case round =>
    clear HB2 HG2 HH2 HR2 HO2 HB1 HG1 HH1 HR1 HB0 HG0 HH0 HR0
    obtain ⟨x, p, hx, hp, rfl, hbe, hgg, hhh, hrr, hown⟩ := hrel
    have HP := hide hp
    have HB := hide hbe
    have HG := hide hgg
    have HH := hide hhh
    have HR := hide hrr
    have HO := hide hown
    clear hp hbe hgg hhh hrr hown
    by_cases hlt : x < n
    · have hxz : (x : Int) < n := by omega
      have k0 := HH.out.cell 0 _ rfl
      go_wp2_with fail
      clear k0
      refine (gsize_any _ q _ _ (by omega)).mono ?_
      rintro e w5 ⟨rfl, hb1⟩
      have HB5 := hide (HB.out.trans (hb1.mono HB.out.size))
      have HG5 := hide (HG.out.later hb1)
      have HH5 := hide (HH.out.later hb1)
      have HR5 := hide (HR.out.later hb1)
      have HO5 := hide (ow2_below HO.out hb1)
      clear hb1 HB HG HH HR HO
      go_wp2_with fail
      go_loopw [5, 16] (fun v i wr => ∃ y p : Nat, y ≤ q ∧ p = x * q + y ∧ i = .int .i64 y ∧ Below w.heap.size w wr ∧ Blk wr w.heap.size 24 [.slice A n c] ∧ Blk wr (w.heap.size + 1) 24 [.slice C q c2] ∧ Blk wr (w.heap.size + 1 + 1) 24 [.slice none 0 0] ∧ wr.ownsRow (w.heap.size + 1 + 1 + 1) 117 2 v p (pcells q p)) (fun _ i _ => q - (intOf i).toNat)
      case atStart => exact ⟨0, p, Nat.zero_le _, by rw [HP.out]; rfl, rfl, HB5.out, HG5.out, HH5.out, HR5.out, HO5.out⟩
      case round =>
        clear HB5 HG5 HH5 HR5 HO5 HP
        obtain ⟨y, p, hy, hp, rfl, hbe, hgg, hhh, hrr, hown⟩ := hrel
        have HP := hide hp
        have HB := hide hbe
        have HG := hide hgg
        have HH := hide hhh
        have HR := hide hrr
        have HO := hide hown
        have hrl := hrr.lt
        clear hp hbe hgg hhh hrr hown
        by_cases hlty : y < q
        · have hyz : (y : Int) < q := by omega
          have hp12 : p < 12 := by
            have h1 := HP.out
            have h2 := HSZ.out
            have h3 : (x + 1) * q ≤ n * q := Nat.mul_le_mul_right q hlt
            rw [Nat.succ_mul] at h3
            omega
          go_wp2_with (at_builtin; refine wpList_append_own _ rfl _ _ 115 rfl (w.heap.size + 1 + 1 + 1) 117 i0 (.agg #[.int .i64 0, .int .i64 0]) 2 16 Try.underlying115 hi hz0 hz1 hz2 rfl (by decide) _ _ _ rfl (ow2_below HO.out ((Below.refl _ _).alloc (Nat.le_refl _) _)) ⟨wr.heap.size, 0, none⟩ 1 1 [.int .i64 (x : Int), .int .i64 (y : Int)] rfl rfl ?c1 ?c2 ?c3 ?c4 ?c5 ?_)
          case c1 => exact pg_new
          case c2 => intro z hz9; simp at hz9; rcases hz9 with rfl | rfl <;> rfl
          case c3 => unfold maxLen; omega
          case c4 => omega
          case c5 => simp; omega
          intro v' w7 hown' hgrow _
          have HO' := hide hown'
          have hlo : w.heap.size + 1 + 1 + 1 ≤ (wr.alloc (.cells #[.int .i64 (x : Int), .int .i64 (y : Int)] 117)).heap.size := by simp; omega
          have HBX : Hid (Below (w.heap.size + 1 + 1 + 1) (wr.alloc (.cells #[.int .i64 (x : Int), .int .i64 (y : Int)] 117)) w7) := hide ((Below.refl _ _).grown hgrow hlo (fun g hg => ((ow2_below HO.out ((Below.refl _ _).alloc (Nat.le_refl _) (.cells #[.int .i64 (x : Int), .int .i64 (y : Int)] 117))).lt g hg).1))
          have HB7 : Hid (Below w.heap.size w w7) := hide ((HB.out.alloc HB.out.size _).grown hgrow (by have := HB.out.size; simp; omega) (fun g hg => by have h := ((ow2_below HO.out ((Below.refl _ _).alloc (Nat.le_refl _) (.cells #[.int .i64 (x : Int), .int .i64 (y : Int)] 117))).lt g hg).1; omega))
          have HG7 : Hid (Blk w7 w.heap.size 24 [.slice A n c]) := hide ((HBX.out.block _ (by omega)).trans (HG.out.alloc _))
          have HH7 : Hid (Blk w7 (w.heap.size + 1) 24 [.slice C q c2]) := hide ((HBX.out.block _ (by omega)).trans (HH.out.alloc _))
          have HR7 : Hid (Blk w7 (w.heap.size + 1 + 1) 24 [.slice none 0 0]) := hide ((HBX.out.block _ (by omega)).trans (HR.out.alloc _))
          clear hown' hgrow hlo
          go_wp2_with fail
          go_roundw
          case rel =>
            refine ⟨y + 1, p + 1, by omega, by rw [HP.out]; omega, by go_num, HB7.out, HG7.out, HH7.out, HR7.out, ?_⟩
            have h := HO'.out
            rw [pcells_succ, HP.out, pair_div q x y hlty, pair_mod q x y hlty, ← HP.out]
            exact h
          case measure => simp [intOf]; omega
        · have hyn : y = q := by omega
          subst hyn
          go_wp2_with fail
          go_roundw
          case rel => exact ⟨x + 1, p, by omega, by rw [HP.out, Nat.add_mul]; omega, by go_num, HB.out, HG.out, HH.out, HR.out, HO.out⟩
          case measure => simp [intOf]; omega
    · have hxn : x = n := by omega
      subst hxn
      have hps : p = sz := by rw [HP.out, HSZ.out]
      subst hps
      obtain ⟨gg, cc, hv, hprs⟩ := prs_of_owns hsz1 HO.out
      subst hv
      have HPR := hide hprs
      clear hprs
      have HMU := hide (pgMul_any A x c f C q c2 g w.heap.size (w.heap.size + 1) wr HN.out HT.out (HF.out.later HB.out) HQ.out HT2.out (HF2.out.later HB.out) HG.out HH.out)
      go_wp2_with fail
      refine (grpP_any 108 _ gg p cc (fun i => i / q) (fun i => i % q) (pgN f g q) _ (fun _ _ => rfl) hsz1 hle (fun i k hi hk => by rw [← HSZ.out] at hi hk ⊢; exact (pg_lt HN.out HT.out HQ.out HT2.out hi hk).1) (fun i j _ hij => pg_ne hij) HPR.out (by have h := HMU.out; rw [HSZ.out] at h; exact h)).mono ?_
      rintro e w3 ⟨A3, c3, rfl, hb3, ho3⟩
      have HB3 := hide (HB.out.trans (hb3.mono HB.out.size))
      have HR3 := hide (HR.out.later hb3)
      have HO3 := hide ho3
      have hlow := HR.out.lt
      clear hb3 ho3
      have k2 := HR3.out.cell 0 _ rfl
      have k3 := HR3.out.frozen 0
      go_wp2_with fail
      refine bp_gen fun wf hwf => ?_
      obtain ⟨q0, hbf, hof⟩ := kend hwf HR3.out (by omega) HB3.out HO3.out (by omega) hlow (Nat.le_refl _)
      clear hwf k2 k3
      exact bodyPost_ret (v := .agg #[.slice A3 p c3]) (by simp [results, Try.results63, go_sem, q0]) rfl ⟨_, _, rfl, hbf, by rw [← pg_pd]; exact hof⟩
end Go.Proofs.Ytelildgngkajnaa
