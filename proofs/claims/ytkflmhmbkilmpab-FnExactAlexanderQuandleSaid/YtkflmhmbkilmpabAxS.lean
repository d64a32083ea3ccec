import Derived.Test.YtkflmhmbkilmpabAxF
import Derived.Test.YtkflmhmbkilmpabAlx
import Derived.Test.YtkflmhmbkilmpabIn
import Derived.Test.YtkflmhmbkilmpabLst1
namespace Go.Proofs.Ytkflmhmbkilmpab
open Go Go.RowKit
set_option maxHeartbeats 2000000
set_option maxRecDepth 100000 in
theorem coprime_any (a n : Nat) (r : Bool) (w : World) (h1 : 1 ≤ n) (h12 : n ≤ 12) (_han : a < n) (hres : r = true ↔ ∀ d, 2 ≤ d → d ≤ n → ¬ (a % d = 0 ∧ n % d = 0)) :
    Calls Try.prog 65 #[.int .i64 a, .int .i64 n] w fun e w' => e = .returned (.bool r) ∧ Quiet w w' := by
  have HRES := hide hres
  clear hres
  go_enter Try.func65, Try.ntmps65
  go_wp2_with fail
  go_loopw [5] (fun i wr => ∃ d : Nat, 2 ≤ d ∧ d ≤ n + 2 ∧ i = .int .i64 d ∧ Quiet w wr ∧ ∀ d', 2 ≤ d' → d' < d → ¬ (a % d' = 0 ∧ n % d' = 0)) (fun i _ => n + 2 - (intOf i).toNat)
  case atStart => exact ⟨2, Nat.le_refl _, by omega, rfl, Quiet.refl _, fun d' h2 h3 => by omega⟩
  case round =>
    obtain ⟨d, hd2, hdn, rfl, hq, hall⟩ := hrel
    have HQ := hide hq
    have HALL := hide hall
    clear hq hall
    by_cases hle : d ≤ n
    · have hlez : (d : Int) ≤ n := by omega
      have hd0 : ¬ (d : Int) = 0 := by omega
      have m1 : ((a : Int)).tmod (d : Int) = ((a % d : Nat) : Int) := by rw [Int.ofNat_tmod]
      have m2 : ((n : Int)).tmod (d : Int) = ((n % d : Nat) : Int) := by rw [Int.ofNat_tmod]
      obtain ⟨u, hu⟩ : ∃ u, a % d = u := ⟨_, rfl⟩
      obtain ⟨v, hv⟩ : ∃ v, n % d = v := ⟨_, rfl⟩
      have hul : u < d := by rw [← hu]; exact Nat.mod_lt _ (by omega)
      have hvl : v < d := by rw [← hv]; exact Nat.mod_lt _ (by omega)
      rw [hu] at m1
      rw [hv] at m2
      have HU := hide hu
      have HV := hide hv
      clear hu hv
      by_cases h0 : u = 0
      · subst h0
        by_cases h3 : v = 0
        · subst h3
          have hrf : r = false := by
            cases r
            · rfl
            · exact absurd ⟨HU.out, HV.out⟩ (HRES.out.1 rfl d hd2 hle)
          subst hrf
          go_wp2_with fail
          go_ret
          exact ⟨rfl, HQ.out⟩
        · have h3z : ((v : Int) == 0) = false := by simpa using h3
          have HNV := hide h3
          clear h3
          go_wp2_with fail
          go_roundw
          case rel => exact ⟨d + 1, by omega, by omega, by go_num, HQ.out, fun d' a1 a2 => by
            by_cases e : d' = d
            · rw [e, HV.out]; exact fun h => HNV.out h.2
            · exact HALL.out d' a1 (by omega)⟩
          case measure => simp [intOf]; omega
      · have h0z : ((u : Int) == 0) = false := by simpa using h0
        have HNU := hide h0
        clear h0
        go_wp2_with fail
        go_roundw
        case rel => exact ⟨d + 1, by omega, by omega, by go_num, HQ.out, fun d' a1 a2 => by
          by_cases e : d' = d
          · rw [e, HU.out]; exact fun h => HNU.out h.1
          · exact HALL.out d' a1 (by omega)⟩
        case measure => simp [intOf]; omega
    · have hlez : ¬ (d : Int) ≤ n := by omega
      have hrt : r = true := HRES.out.2 fun d' a1 a2 => HALL.out d' a1 (by omega)
      subst hrt
      go_wp2_with fail
      go_ret
      exact ⟨rfl, HQ.out⟩
set_option maxRecDepth 100000 in
theorem axS_any (x y : Int) (zs : List (List Int)) (code : Int) (k : Nat) (w : World) (hlo : -9223372036854775808 ≤ x) (hhi : x ≤ 9223372036854775807) (hlo2 : -9223372036854775808 ≤ y) (hhi2 : y ≤ 9223372036854775807) (hres : AxRes x y zs code) (hk : zs.length = k) :
    Calls Try.prog 37 #[.int .i64 x, .int .i64 y] w (fun e w' => ∃ A' c', e = .returned (.tuple #[.agg #[.slice A' k c'], .int .i64 code]) ∧ Below w.heap.size w w' ∧ Obj2 33 2 w.heap.size w'.heap.size w' A' zs) := by
  rcases hres with ⟨⟨hx, hy⟩, hg, rfl, rfl⟩ | ⟨⟨hx, hy⟩, hg, rfl, rfl⟩ | ⟨hno, rfl, rfl⟩
  · obtain ⟨n, rfl⟩ : ∃ n : Nat, x = (n : Int) := ⟨x.toNat, by omega⟩
    obtain ⟨a, rfl⟩ : ∃ a : Nat, y = (a : Int) := ⟨y.toNat, by omega⟩
    have h1 : 1 ≤ n := by omega
    have h12 : n ≤ 12 := by omega
    have han : a < n := by omega
    have hyn : (a : Int) < (n : Int) := by omega
    rw [show ((n : Int)).toNat = n by simp, show ((a : Int)).toNat = a by simp] at hg
    have hkn : n = k := by rw [← hk, grid_length]; simp
    subst hkn
    rw [show ((n : Int)).toNat = n by simp, show ((a : Int)).toNat = a by simp]
    clear hk
    have HCP := hide ((cop_iff a n h1).1 hg)
    clear hg
    obtain ⟨q, hq0⟩ : ∃ q, n + 1 - a = q := ⟨_, rfl⟩
    have hqz : (1 : Int) - (a : Int) + (n : Int) = (q : Int) := by omega
    have hr : (q : Int).tmod (n : Int) = ((q % n : Nat) : Int) := by rw [Int.ofNat_tmod]
    have hrn : q % n < n := Nat.mod_lt _ (by omega)
    obtain ⟨r, hre⟩ : ∃ r, q % n = r := ⟨_, rfl⟩
    rw [hre] at hr hrn
    have HRE := hide hre
    have HQ0 := hide hq0
    have hn0 : ¬ (n : Int) = 0 := by omega
    have hq13 : q ≤ 13 := by omega
    clear hre hq0
    have HB0 := hide ((Below.refl _ w).alloc (Nat.le_refl _) (Obj.cells #[.slice none 0 0] 26))
    have HK0 := hide (Blk.new w 26 [.slice none 0 0])
    go_enter Try.func37, Try.ntmps37
    go_wp2_with fail
    refine (in_any _ 1 12 true _ (by simp; omega)).mono ?_
    rintro e w1 ⟨rfl, hq⟩
    have HB1 := hide (HB0.out.trans (hq.below _))
    have HK1 := hide (HK0.out.later (hq.below _))
    clear hq
    go_wp2_with fail
    refine (in_any _ 0 _ true _ (by simp; omega)).mono ?_
    rintro e w2 ⟨rfl, hq⟩
    have HB2 := hide (HB1.out.trans (hq.below _))
    have HK2 := hide (HK1.out.later (hq.below _))
    clear hq
    go_wp2_with fail
    refine (coprime_any a n true _ h1 h12 han (by simp only [true_iff]; exact HCP.out)).mono ?_
    rintro e w3 ⟨rfl, hq⟩
    have HB3 := hide (HB2.out.trans (hq.below _))
    have HK3 := hide (HK2.out.later (hq.below _))
    clear hq
    go_wp2_with fail
    refine (alx_any n a r _ h1 h12 (by omega) (by omega)).mono ?_
    rw [show grid n (alxH n a r) = grid n (axH n a) from grid_congr _ _ _ (fun x y _ _ => by unfold alxH axH; rw [← HRE.out, ← HQ0.out, ax_mod])]
    rintro e w9 ⟨A3, c3, rfl, hb3, ho3⟩
    have HB9 := hide (HB3.out.trans (hb3.mono HB3.out.size))
    have HK9 := hide (HK3.out.later hb3)
    have HO3 := hide ho3
    have hlow : w.heap.size < w3.heap.size := HK3.out.lt
    clear hb3 ho3
    have k2 := HK9.out.cell 0 _ rfl
    have k3 := HK9.out.frozen 0
    go_wp2_with fail
    refine bp_gen fun wf hwf => ?_
    obtain ⟨q0, hbf, hof⟩ := kend hwf HK9.out (Nat.le_refl _) HB9.out HO3.out (by omega) hlow (Nat.le_refl _)
    clear hwf k2 k3
    exact bodyPost_ret (v := .tuple #[.agg #[.slice A3 n c3], .int .i64 0]) (by simp [results, Try.results37, go_sem, q0]) rfl ⟨_, _, rfl, hbf, hof⟩
  · obtain ⟨n, rfl⟩ : ∃ n : Nat, x = (n : Int) := ⟨x.toNat, by omega⟩
    obtain ⟨a, rfl⟩ : ∃ a : Nat, y = (a : Int) := ⟨y.toNat, by omega⟩
    have h1 : 1 ≤ n := by omega
    have h12 : n ≤ 12 := by omega
    have han : a < n := by omega
    have hyn : (a : Int) < (n : Int) := by omega
    rw [show ((n : Int)).toNat = n by simp, show ((a : Int)).toNat = a by simp] at hg
    have hk0 : k = 0 := by rw [← hk]; rfl
    subst hk0
    clear hk
    have HCP := hide (fun h => hg ((cop_iff a n h1).2 h))
    clear hg
    have HB0 := hide ((Below.refl _ w).alloc (Nat.le_refl _) (Obj.cells #[.slice none 0 0] 26))
    have HK0 := hide (Blk.new w 26 [.slice none 0 0])
    go_enter Try.func37, Try.ntmps37
    go_wp2_with fail
    refine (in_any _ 1 12 true _ (by simp; omega)).mono ?_
    rintro e w1 ⟨rfl, hq⟩
    have HB1 := hide (HB0.out.trans (hq.below _))
    have HK1 := hide (HK0.out.later (hq.below _))
    clear hq
    go_wp2_with fail
    refine (in_any _ 0 _ true _ (by simp; omega)).mono ?_
    rintro e w2 ⟨rfl, hq⟩
    have HB2 := hide (HB1.out.trans (hq.below _))
    have HK2 := hide (HK1.out.later (hq.below _))
    clear hq
    go_wp2_with fail
    refine (coprime_any a n false _ h1 h12 han (by simp only [Bool.false_eq_true, false_iff]; exact HCP.out)).mono ?_
    rintro e w3 ⟨rfl, hq⟩
    have HB3 := hide (HB2.out.trans (hq.below _))
    have HK3 := hide (HK2.out.later (hq.below _))
    clear hq
    have k2 := HK3.out.cell 0 _ rfl
    have k3 := HK3.out.frozen 0
    go_wp2_with fail
    refine bp_gen fun wf hwf => ?_
    have HRF : Blk wf w.heap.size 26 [.slice none 0 0] := by rw [hwf]; first | exact HK3.out | exact HK3.out.set 0 _
    have hbf : Below w.heap.size w wf := by rw [hwf]; first | exact HB3.out | exact HB3.out.setCell (p := ⟨w.heap.size, 0, none⟩) (Nat.le_refl _) _
    have q0 := HRF.cell 0 _ rfl
    clear hwf k2 k3
    exact bodyPost_ret (v := .tuple #[.agg #[.slice none 0 0], .int .i64 5]) (by simp [results, Try.results37, go_sem, q0]) rfl ⟨_, _, rfl, hbf, .inl ⟨rfl, rfl⟩⟩
  · have hk0 : k = 0 := by rw [← hk]; rfl
    subst hk0
    clear hk
    by_cases hx : 1 ≤ x ∧ x ≤ 12
    · skip
      have HB0 := hide ((Below.refl _ w).alloc (Nat.le_refl _) (Obj.cells #[.slice none 0 0] 26))
      have HK0 := hide (Blk.new w 26 [.slice none 0 0])
      go_enter Try.func37, Try.ntmps37
      go_wp2_with fail
      refine (in_any _ 1 12 true _ (by simp; omega)).mono ?_
      rintro e w1 ⟨rfl, hq⟩
      have HB1 := hide (HB0.out.trans (hq.below _))
      have HK1 := hide (HK0.out.later (hq.below _))
      clear hq
      go_wp2_with fail
      refine (in_any _ 0 _ false _ (by simp; omega)).mono ?_
      rintro e w2 ⟨rfl, hq⟩
      have HB2 := hide (HB1.out.trans (hq.below _))
      have HK2 := hide (HK1.out.later (hq.below _))
      clear hq
      have k2 := HK2.out.cell 0 _ rfl
      have k3 := HK2.out.frozen 0
      go_wp2_with fail
      refine bp_gen fun wf hwf => ?_
      have HRF : Blk wf w.heap.size 26 [.slice none 0 0] := by rw [hwf]; first | exact HK2.out | exact HK2.out.set 0 _
      have hbf : Below w.heap.size w wf := by rw [hwf]; first | exact HB2.out | exact HB2.out.setCell (p := ⟨w.heap.size, 0, none⟩) (Nat.le_refl _) _
      have q0 := HRF.cell 0 _ rfl
      clear hwf k2 k3
      exact bodyPost_ret (v := .tuple #[.agg #[.slice none 0 0], .int .i64 2]) (by simp [results, Try.results37, go_sem, q0]) rfl ⟨_, _, rfl, hbf, .inl ⟨rfl, rfl⟩⟩
    · skip
      have HB0 := hide ((Below.refl _ w).alloc (Nat.le_refl _) (Obj.cells #[.slice none 0 0] 26))
      have HK0 := hide (Blk.new w 26 [.slice none 0 0])
      go_enter Try.func37, Try.ntmps37
      go_wp2_with fail
      refine (in_any _ 1 12 false _ (by simp; omega)).mono ?_
      rintro e w1 ⟨rfl, hq⟩
      have HB1 := hide (HB0.out.trans (hq.below _))
      have HK1 := hide (HK0.out.later (hq.below _))
      clear hq
      have k2 := HK1.out.cell 0 _ rfl
      have k3 := HK1.out.frozen 0
      go_wp2_with fail
      refine bp_gen fun wf hwf => ?_
      have HRF : Blk wf w.heap.size 26 [.slice none 0 0] := by rw [hwf]; first | exact HK1.out | exact HK1.out.set 0 _
      have hbf : Below w.heap.size w wf := by rw [hwf]; first | exact HB1.out | exact HB1.out.setCell (p := ⟨w.heap.size, 0, none⟩) (Nat.le_refl _) _
      have q0 := HRF.cell 0 _ rfl
      clear hwf k2 k3
      exact bodyPost_ret (v := .tuple #[.agg #[.slice none 0 0], .int .i64 2]) (by simp [results, Try.results37, go_sem, q0]) rfl ⟨_, _, rfl, hbf, .inl ⟨rfl, rfl⟩⟩
end Go.Proofs.Ytkflmhmbkilmpab
