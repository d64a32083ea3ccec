import Derived.Test.YtelildgngkajnaaDoorZs
import Derived.Test.YtelildgngkajnaaDoorZq
namespace Go.Proofs.YtelildgngkajnaaDoor
open Go Go.RowKit
set_option maxHeartbeats 4000000
set_option maxRecDepth 100000 in
theorem qgI (A : Option Addr) (n c : Nat) (f : List (List Int)) (x : Int) (zs : List (List Int)) (code : Int) (k : Nat) (w : World) (hn : f.length = n) (hb : n ≤ 1048576) (hbs : ∀ i, i < f.length → (f.getD i []).length ≤ 1048576) (hr : Rd2 w A f) (hlo : -9223372036854775808 ≤ x) (hhi : x ≤ 9223372036854775807) (hdb : DbT w) (hres : QgRes f x zs code) (hk : zs.length = k) :
    Calls Tryd.prog 7 #[.agg #[.slice A n c], .int .i64 x] w (fun e w' => ∃ A' c', e = .returned (.tuple #[.agg #[.slice A' k c'], .int .i64 code]) ∧ Below w.heap.size w w' ∧ Obj2 37 2 w.heap.size w'.heap.size w' A' zs) := by
  have HN := hide hn
  have HRD := hide hr
  have HB0 := hide (((Below.refl _ w).alloc (Nat.le_refl _) (Obj.cells #[Value.slice A n c] 26)).alloc (by simp) (Obj.cells #[.slice none 0 0] 26))
  have HK0 := hide ((Blk.new w 26 [.slice A n c]).alloc (Obj.cells #[.slice none 0 0] 26))
  have HR0 : Hid (Blk ((w.alloc (Obj.cells #[Value.slice A n c] 26)).alloc (Obj.cells #[.slice none 0 0] 26)) (w.heap.size + 1) 26 [.slice none 0 0]) := hide (by have h := Blk.new (w.alloc (Obj.cells #[Value.slice A n c] 26)) 26 [.slice none 0 0]; simpa using h)
  have HBS := hide hbs
  have HDB := hide hdb
  rcases hres with ⟨hg, ⟨S, rfl, hS, hsg, hnm, rfl⟩, rfl⟩ | ⟨r, c0, hnr, hor, rfl, hcode⟩
  · rw [hn] at hS hk ⊢
    have HKK : Hid ((rpL (ceL f S) n).length = k) := hide (by rw [← hk, grid_length])
    have HNR : Hid (NrRes f S true 0) := hide (.inl ⟨hg, ⟨S, rfl, by rw [hn]; exact hS, hsg, by simp [hnm]⟩, rfl⟩)
    have HG := hide hg
    have HS := hide hS
    have HSG := hide hsg
    have h1 : 1 ≤ n := (hg.pos hn).1
    have h12 : n ≤ 12 := (hg.pos hn).2
    have hm1 := rpL_pos (ceL_ldr hn hg hS hsg) h1
    have hm12 := rpL_length (ceL f S) n
    have HEQ : Hid (grid (rpL (ceL f S) n).length (qgH f S n) = grid (rpL (ceL f S) n).length (fun i k => ixOf (csL f S n) ((csN f S (ap f (rpN (ceL f S) n i) (rpN (ceL f S) n k)) : Nat) : Int))) := hide (grid_congr _ _ _ fun i k hi hk => qgH_at hn hg hS hsg hi hk)
    have HIX : Hid (∀ i k, i < (rpL (ceL f S) n).length → k < (rpL (ceL f S) n).length → 0 ≤ ixOf (csL f S n) ((csN f S (ap f (rpN (ceL f S) n i) (rpN (ceL f S) n k)) : Nat) : Int) ∧ ixOf (csL f S n) ((csN f S (ap f (rpN (ceL f S) n i) (rpN (ceL f S) n k)) : Nat) : Int) < (((rpL (ceL f S) n).length : Nat) : Int)) := hide (fun i k hi hk => by
      have hz := hg.lt hn (rpN_ok hi).1 (rpN_ok hk).1
      have hl := ceL_ldr hn hg hS hsg
      have hok := ceL_ok hn hg hS hsg hz
      rw [csL_ix hn hg hS hsg hz]
      have := List.idxOf_lt_length_of_mem ((rpL_mem (ceL f S) n (ceL f S (ap f (rpN (ceL f S) n i) (rpN (ceL f S) n k)))).2 ⟨hok.2.1, hl.idem _ hz⟩)
      omega)
    rw [HEQ.out]
    clear hn hbs hr hdb hk hg hS hsg hnm HEQ
    go_enter Tryd.func7, Tryd.ntmps7
    have k0 := HK0.out.cell 0 _ rfl
    go_wp2_with fail
    clear k0
    refine (nrI _ _ _ f S true 0 _ HN.out hb HBS.out (HRD.out.later HB0.out) hlo hhi HNR.out).mono ?_
    rintro e w1 ⟨rfl, hb1⟩
    have HB1 := hide (HB0.out.trans (hb1.mono HB0.out.size))
    have HK1 := hide (HK0.out.later hb1)
    have HR1 := hide (HR0.out.later hb1)
    clear hb1
    have k0 := HK1.out.cell 0 _ rfl
    go_wp2_with fail
    clear k0
    refine (quot_any _ n _ f S _ HN.out HG.out (HRD.out.later HB1.out) HS.out HSG.out (HDB.out.later HB1.out)).mono ?_
    rintro e w2 ⟨A2, c2, bg, bs, rfl, hb1, hrd, hbg, hbs⟩
    have HB2 := hide (HB1.out.trans (hb1.mono HB1.out.size))
    have HK2 := hide (HK1.out.later hb1)
    have HR2 := hide (HR1.out.later hb1)
    clear hb1
    have HRL := hide hrd
    have HMU := hide (qgMul_any _ n _ f S bg bs w2 HN.out HG.out (HRD.out.later HB2.out) HS.out HSG.out (HDB.out.later HB2.out) hbg hbs)
    clear hrd hbg hbs
    go_wp2_with fail
    refine (grpI_any 37 _ _ _ c2 (csL f S n) _ _ (fun _ _ => rfl) hm1 (by omega) (csL_length f S n) HRL.out HMU.out HIX.out).mono ?_
    rintro e w3 ⟨A3, c3, rfl, hb1, ho1⟩
    have HO := hide ho1
    rw [HKK.out]
    have HB3 := hide (HB2.out.trans (hb1.mono HB2.out.size))
    have HK3 := hide (HK2.out.later hb1)
    have HR3 := hide (HR2.out.later hb1)
    clear hb1
    clear ho1
    have hlow : w.heap.size + 1 < w2.heap.size := HR2.out.lt
    have k2 := HR3.out.cell 0 _ rfl
    have k3 := HR3.out.frozen 0
    go_wp2_with fail
    refine bp_gen fun wf hwf => ?_
    obtain ⟨q0, hbf, hof⟩ := kend hwf HR3.out (by omega) HB3.out HO.out (by omega) hlow (Nat.le_refl _)
    clear hwf k2 k3
    exact bodyPost_ret (v := .tuple #[.agg #[.slice A3 k c3], .int .i64 0]) (by simp [results, Tryd.results7, go_sem, q0]) rfl ⟨_, _, rfl, hbf, hof⟩
  · have hk0 : k = 0 := by rw [← hk]; rfl
    subst hk0
    clear hk
    have HNR := hide hnr
    clear hn hbs hr hdb hnr
    by_cases h0 : c0 = 0
    · subst h0
      rw [if_pos rfl] at hcode
      subst hcode
      have hrf : r = false := hor.resolve_left (by simp)
      subst hrf
      clear hor
      go_enter Tryd.func7, Tryd.ntmps7
      have k0 := HK0.out.cell 0 _ rfl
      go_wp2_with fail
      clear k0
      refine (nrI _ _ _ f x false 0 _ HN.out hb HBS.out (HRD.out.later HB0.out) hlo hhi HNR.out).mono ?_
      rintro e w1 ⟨rfl, hb1⟩
      have HB1 := hide (HB0.out.trans (hb1.mono HB0.out.size))
      have HK1 := hide (HK0.out.later hb1)
      have HR1 := hide (HR0.out.later hb1)
      clear hb1
      have k2 := HR1.out.cell 0 _ rfl
      have k3 := HR1.out.frozen 0
      go_wp2_with fail
      refine bp_gen fun wf hwf => ?_
      have HRF : Blk wf (w.heap.size + 1) 26 [.slice none 0 0] := by rw [hwf]; first | exact HR1.out | exact HR1.out.set 0 _
      have hbf : Below w.heap.size w wf := by rw [hwf]; first | exact HB1.out | exact HB1.out.setCell (p := ⟨w.heap.size + 1, 0, none⟩) (Nat.le_succ _) _
      have q0 := HRF.cell 0 _ rfl
      clear hwf k2 k3
      exact bodyPost_ret (v := .tuple #[.agg #[.slice none 0 0], .int .i64 5]) (by simp [results, Tryd.results7, go_sem, q0]) rfl ⟨_, _, rfl, hbf, .inl ⟨rfl, rfl⟩⟩
    · rw [if_neg h0] at hcode
      subst hcode
      have g1 : (code == 0) = false := by simpa using h0
      have g2 : (code != 0) = true := by simpa using h0
      clear hor h0
      go_enter Tryd.func7, Tryd.ntmps7
      have k0 := HK0.out.cell 0 _ rfl
      go_wp2_with fail
      clear k0
      refine (nrI _ _ _ f x r code _ HN.out hb HBS.out (HRD.out.later HB0.out) hlo hhi HNR.out).mono ?_
      rintro e w1 ⟨rfl, hb1⟩
      have HB1 := hide (HB0.out.trans (hb1.mono HB0.out.size))
      have HK1 := hide (HK0.out.later hb1)
      have HR1 := hide (HR0.out.later hb1)
      clear hb1
      have k2 := HR1.out.cell 0 _ rfl
      have k3 := HR1.out.frozen 0
      go_wp2_with fail
      refine bp_gen fun wf hwf => ?_
      have HRF : Blk wf (w.heap.size + 1) 26 [.slice none 0 0] := by rw [hwf]; first | exact HR1.out | exact HR1.out.set 0 _
      have hbf : Below w.heap.size w wf := by rw [hwf]; first | exact HB1.out | exact HB1.out.setCell (p := ⟨w.heap.size + 1, 0, none⟩) (Nat.le_succ _) _
      have q0 := HRF.cell 0 _ rfl
      clear hwf k2 k3
      exact bodyPost_ret (v := .tuple #[.agg #[.slice none 0 0], .int .i64 code]) (by simp [results, Tryd.results7, go_sem, q0]) rfl ⟨_, _, rfl, hbf, .inl ⟨rfl, rfl⟩⟩
end Go.Proofs.YtelildgngkajnaaDoor
