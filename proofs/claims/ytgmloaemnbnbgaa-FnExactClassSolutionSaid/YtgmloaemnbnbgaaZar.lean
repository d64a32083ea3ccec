import Derived.Test.YtgmloaemnbnbgaaZv
import Derived.Test.YtgmloaemnbnbgaaZaq
import Derived.Test.YtgmloaemnbnbgaaZg
namespace Go.Proofs.Ytgmloaemnbnbgaa
open Go Go.RowKit
open Classical
theorem memTo_set {xs : List Int} {o : Int} {n : Nat} (h : 0 < (memTo xs o n).length) : IncSet n (memTo xs o n) := by
  refine ⟨fun i hi => ⟨?_, fun h0 => ?_⟩, h⟩
  · obtain ⟨j, h1, h2, _⟩ := (memTo_iff _ _ _ _).1 (getD_mem0 hi)
    omega
  · have hp := memTo_inc xs o n
    have h3 := List.pairwise_iff_getElem.1 hp (i - 1) i (by omega) hi (by omega)
    simpa [hi, show i - 1 < (memTo xs o n).length by omega] using h3
/-- The elements of the class with this number. -/
noncomputable def clE (f s : List (List Int)) (cls : Int) : List Int := memTo (alC f s) cls f.length
def ClRes (f s : List (List Int)) (cls : Int) (zf zg : List (List Int)) (code : Int) : Prop :=
  (NdS f s ∧ 0 < (clE f s cls).length ∧ ClF f s (clE f s cls) ∧ zf = grid (clE f s cls).length (sb1 f (clE f s cls)) ∧ zg = grid (clE f s cls).length (sb1 s (clE f s cls)) ∧ code = 0) ∨ (NdS f s ∧ ¬ (0 < (clE f s cls).length ∧ ClF f s (clE f s cls)) ∧ zf = [] ∧ zg = [] ∧ code = 4) ∨ (¬ NdS f s ∧ zf = [] ∧ zg = [] ∧ code = 1)
theorem clE_le (f s : List (List Int)) (cls : Int) : (clE f s cls).length ≤ f.length := memTo_le _ _ _
theorem ClRes.ex (f s : List (List Int)) (cls : Int) : ∃ zf zg code, ClRes f s cls zf zg code ∧ ZSz 1048576 zf zf.length zg zg.length := by
  by_cases h : NdS f s
  · by_cases h2 : 0 < (clE f s cls).length ∧ ClF f s (clE f s cls)
    · exact ⟨_, _, _, .inl ⟨h, h2.1, h2.2, rfl, rfl, rfl⟩, grid_sz (by have h1 := (h.sizes rfl).2.1; have h3 := clE_le f s cls; omega) _ _⟩
    · exact ⟨_, _, _, .inr (.inl ⟨h, h2, rfl, rfl, rfl⟩), nil_sz⟩
  · exact ⟨_, _, _, .inr (.inr ⟨h, rfl, rfl, rfl⟩), nil_sz⟩
/-- As zend, of blocks that lie from lo to hi. -/
theorem zend3 {ts t tz : TypeId} {w w3 wf : World} {r lo hi : Nat} {A B : Option Addr} {n c m d : Nat} {f s : List (List Int)} {u v : Value} (hwf : wf = (w3.setCell ⟨r, 0, none⟩ (.slice A n c)).setCell ⟨r, 1, none⟩ (.slice B m d)) (hr : Blk w3 r tz [u, v]) (hr0 : w.heap.size ≤ r) (hr2 : r < lo) (hb : Below w.heap.size w w3) (h3 : hi ≤ w3.heap.size) (ho : ObjZ ts t lo hi w3 A f B s) :
    wf.cell? ⟨r, 0, none⟩ = some (.slice A n c) ∧ wf.cell? ⟨r, 1, none⟩ = some (.slice B m d) ∧ Below w.heap.size w wf ∧ ObjZ ts t w.heap.size wf.heap.size wf A f B s := by
  have hR : Blk wf r tz [.slice A n c, .slice B m d] := by rw [hwf]; exact (hr.set 0 _).set 1 _
  refine ⟨hR.cell 0 _ rfl, hR.cell 1 _ rfl, ?_, ?_⟩
  · rw [hwf]; exact (hb.setCell (p := ⟨r, 0, none⟩) hr0 _).setCell (p := ⟨r, 1, none⟩) hr0 _
  · rw [hwf]; exact ((ho.set (p := ⟨r, 0, none⟩) (.inl hr2) _).set (p := ⟨r, 1, none⟩) (.inl hr2) _).mono (by omega) (by simpa [World.setCell] using h3)
end Go.Proofs.Ytgmloaemnbnbgaa
namespace Go.Proofs.Ytgmloaemnbnbgaa
open Go Go.RowKit
set_option maxHeartbeats 2000000
theorem elInfo : (Try.prog.info? 2).map (fun i => (i.zero, i.size, i.bytes)) = some (some (.int .i64 0), 1, 8) := by kernel_rfl
set_option maxRecDepth 100000 in
theorem elL_any (A : Option Addr) (n c : Nat) (xs : List Int) (o : Int) (w : World) (hn : xs.length = n) (hb : n ≤ 4096) (hr : Rd w A xs) :
    Calls Try.prog 69 #[.slice A n c, .int .i64 o] w fun e w' => ∃ A' c', e = .returned (.slice A' (memTo xs o n).length c') ∧ Below w.heap.size w w' ∧ Res 2 w.heap.size w' A' (memTo xs o n) := by
  obtain ⟨i0, hi, hz0, hz1, hz2⟩ := info_parts elInfo
  have HN := hide hn
  have HR := hide hr
  clear hn hr
  go_enter Try.func69, Try.ntmps69
  go_wp2_with fail
  go_loopw [5, 11] (fun v i wr => ∃ k : Nat, k ≤ n ∧ i = .int .i64 k ∧ Below w.heap.size w wr ∧ wr.ownsRow w.heap.size 2 1 v (memTo xs o k).length (ints (memTo xs o k)) ∧ w.heap.size ≤ wr.heap.size) (fun _ i _ => n - (intOf i).toNat)
  case atStart => exact ⟨0, Nat.zero_le _, rfl, (Below.refl _ _).alloc (Nat.le_refl _) _, by simpa [memTo, ints] using ne_empty w 2, by simp⟩
  case round =>
    obtain ⟨k, hk, rfl, hbe, hown, hsz⟩ := hrel
    have HB := hide hbe
    have HO := hide hown
    clear hbe hown
    by_cases hlt : k < n
    · have hltz : (k : Int) < n := by omega
      obtain ⟨b, oo, rfl, hbw, hc⟩ := HR.out (by have := HN.out; omega)
      have hck := (HB.out.cell (p := ⟨b, oo + k, none⟩) hbw).trans (hc k (by have := HN.out; omega))
      obtain ⟨x, hx⟩ : ∃ x, xs.getD k 0 = x := ⟨_, rfl⟩
      rw [hx] at hck
      have HX := hide hx
      obtain ⟨fl, hfl⟩ : ∃ fl, (memTo xs o k).length = fl := ⟨_, rfl⟩
      have hfk := memTo_le xs o k
      rw [hfl] at HO hfk
      have HFL := hide hfl
      clear hfl hc hx
      by_cases he : x = o
      · subst he
        have hbeq : ((x : Int) == x) = true := by simp
        have hst := memTo_hit xs x k HX.out
        have HST := hide hst
        clear hst
        go_wp2_with (at_builtin; refine wpList_append_own _ rfl _ _ 26 rfl w.heap.size 2 i0 (.int .i64 0) 1 8 Try.underlying26 hi hz0 hz1 hz2 rfl (by decide) _ _ _ rfl (HO.out.alloc _) ⟨wr.heap.size, 0, none⟩ 1 1 [.int .i64 k] rfl rfl ?c1 ?c2 ?c3 ?c4 ?c5 ?_)
        case c1 => exact ne_new
        case c2 => intro u hu; simp at hu; subst hu; rfl
        case c3 => unfold maxLen; omega
        case c4 => omega
        case c5 => simp; omega
        intro v' w4 hown' hgrow _
        have HO' := hide hown'
        have HG4 := hide hgrow
        clear hown' hgrow hck
        go_wp2_with fail
        go_roundw
        case rel =>
          have hB4 : Below w.heap.size w w4 := (HB.out.alloc hsz _).grown HG4.out (by simp; omega) (fun g hg => ((HO.out.alloc (.cells #[.int .i64 k] 2)).lt g hg).1)
          refine ⟨k + 1, by omega, by go_num, hB4, ?_, by have := HG4.out.size; simp at this; omega⟩
          have h := HO'.out
          rw [HST.out]
          simpa [ints, HFL.out] using h
        case measure => simp [intOf]; omega
      · have hbeq : ((x : Int) == o) = false := by simpa using he
        have hst := memTo_miss xs o k (by rw [HX.out]; exact he)
        have HST := hide hst
        clear hst
        go_wp2_with fail
        go_roundw
        case rel => exact ⟨k + 1, by omega, by go_num, HB.out, by rw [HST.out, HFL.out]; exact HO.out, hsz⟩
        case measure => simp [intOf]; omega
    · have hkn : k = n := by omega
      subst hkn
      go_wp2_with fail
      go_ret
      obtain ⟨A', c', hv, hres⟩ := own_shape HO.out
      exact ⟨A', c', by rw [← hv]; rfl, HB.out, hres⟩
end Go.Proofs.Ytgmloaemnbnbgaa
