import Derived.Test.YtanldiildinbdaaZaq
import Derived.Test.YtanldiildinbdaaProg
import Derived.Test.YtanldiildinbdaaZb
namespace Go.Proofs.Ytanldiildinbdaa
open Go Go.RowKit
def kinkL (f : List (List Int)) : List Int := (List.range f.length).map fun (x : Nat) => ((ap f x x : Nat) : Int)
theorem kinkL_length (f : List (List Int)) : (kinkL f).length = f.length := by simp [kinkL]
theorem kinkL_getD (f : List (List Int)) (k : Nat) (h : k < f.length) : (kinkL f).getD k 0 = ((ap f k k : Nat) : Int) := by simp [kinkL, h]
def KinkRes (f : List (List Int)) (zs : List Int) (code : Int) : Prop := (Rck f ∧ zs = kinkL f ∧ code = 0) ∨ (¬ Rck f ∧ zs = [] ∧ code = 1)
theorem KinkRes.ex (f : List (List Int)) : ∃ zs code, KinkRes f zs code ∧ zs.length ≤ 1048576 := by
  by_cases h : Rck f
  · exact ⟨_, _, .inl ⟨h, rfl, rfl⟩, by rw [kinkL_length]; have := h.tbl.2.1; omega⟩
  · exact ⟨_, _, .inr ⟨h, rfl, rfl⟩, by simp⟩
theorem kq_take (zs : List Int) (k : Nat) (y : Int) (h : k < zs.length) (hy : zs.getD k 0 = y) : ints (zs.take k) ++ [.int .i64 y] = ints (zs.take (k + 1)) := by
  rw [List.take_succ_eq_append_getElem h]
  have : zs[k] = y := by simpa [h] using hy
  simp [ints, this]
theorem kq_empty (w : World) (t : TypeId) : (w.alloc (.cells #[] t)).ownsRow w.heap.size t 1 (.slice (some ⟨w.heap.size, 0, none⟩) 0 0) 0 [] :=
  ⟨by simp, .inr ⟨w.heap.size, 0, #[], rfl, Nat.le_refl _, heap_alloc_new _ _, Nat.le_refl _, by unfold maxLen; omega, by simp, by simp⟩⟩
theorem kq_new {w : World} {v : Value} {t : TypeId} : ∀ j u, [v][j]? = some u → (w.alloc (.cells #[v] t)).cell? ((⟨w.heap.size, 0, none⟩ : Addr).add j) = some u := by
  intro j u hj
  match j, hj with
  | 0, hj => simp at hj; subst hj; simp [Addr.add, World.cell?_alloc_new]
theorem kqInfo : (Try.prog.info? 2).map (fun i => (i.zero, i.size, i.bytes)) = some (some (.int .i64 0), 1, 8) := by kernel_rfl
/-- The last lines of a row that was filled from the front. -/
theorem kq_fill (zs : List Int) (n k : Nat) (hz : zs.length = n) (hk : k < n) : ((zs.take k ++ List.replicate (n - k) 0).set k (zs.getD k 0)) = zs.take (k + 1) ++ List.replicate (n - (k + 1)) 0 := by
  apply List.ext_getElem
  · simp; omega
  · intro i h1 h2
    simp only [List.getElem_set, List.getElem_append, List.length_take, List.getElem_take, List.getElem_replicate]
    by_cases e : k = i
    · subst e
      rw [if_pos rfl, dif_pos (by omega)]
      simp [show k < zs.length by omega]
    · rw [if_neg e]
      by_cases e2 : i < k
      · rw [dif_pos (by omega), dif_pos (by omega)]
      · rw [dif_neg (by omega), dif_neg (by omega)]
end Go.Proofs.Ytanldiildinbdaa
namespace Go.Proofs.Ytanldiildinbdaa
open Go Go.RowKit
set_option maxHeartbeats 1000000
theorem coWS_any (A : Option Addr) (n c : Nat) (f : List (List Int)) (B : Option Addr) (m d : Nat) (s : List (List Int)) (zs : List Int) (code : Int) (k : Nat) (w : World) (hz : ZArg 1048576 w A n f B m s) (hr : CoRes f s zs code) (hk : zs.length = k) :
    Calls Try.prog 26 #[.agg #[.slice A n c, .slice B m d]] w (RPost 2 k zs code w) := by
  have HZ := hide hz
  have hfl := hz.sz.fl
  have HB0 := hide ((Below.refl _ w).alloc (Nat.le_refl _) (Obj.cells #[Value.slice A n c, Value.slice B m d] 27))
  have HK0 := hide (Blk.new w 27 [.slice A n c, .slice B m d])
  unfold CoRes at hr
  rw [hfl] at hr
  have HKE := hide hk
  clear hk
  rcases hr with ⟨a, b, hp, hf, rfl, rfl⟩ | ⟨hp, hf, rfl, rfl⟩ | ⟨hp, rfl, rfl⟩
  · have HF := hide hf
    have k9 : k = 4 := HKE.out.symm
    subst k9
    clear hf
    have HP := hide hp
    clear hp hz hfl
    go_enter Try.func26, Try.ntmps26
    go_wp2_with fail
    refine (mapS_any _ _ _ f _ _ _ s true _ (HZ.out.later HB0.out) (by simp [HP.out])).mono ?_
    rintro e w1 ⟨rfl, hb1⟩
    have HB1 := hide (HB0.out.trans (hb1.mono HB0.out.size))
    have HK1 := hide (HK0.out.later hb1)
    have k0 := HK1.out.cell 0 _ rfl
    have k1 := HK1.out.cell 1 _ rfl
    clear hb1
    go_wp2_with fail
    refine (collS_any _ _ _ f _ _ _ s _ (HZ.out.later HB1.out) HP.out).mono ?_
    rintro e w2 ⟨g, q, ys, rfl, hb2, hlo, hown, hres⟩
    have HB2 := hide (HB1.out.trans (hb2.mono HB1.out.size))
    have HRES := hide hres
    have HOWN := hide hown
    have hlo2 : w.heap.size ≤ g := by have := HB1.out.size; omega
    clear hb2 hres k0 k1 hown hlo
    rcases HRES.out with ⟨hno, _, _⟩ | ⟨a', b', hf2, hzs, rfl⟩
    · exact absurd hno HF.out.not
    · obtain ⟨e1, e2⟩ := HF.out.uniq hf2
      subst e1
      subst e2
      subst hzs
      clear HRES hf2
      go_wp2_with fail
      go_ret2
      exact ⟨_, _, rfl, HB2.out, .inr ⟨g, rfl, hlo2, HOWN.out⟩⟩
  · have HF := hide hf
    have k9 : k = 0 := HKE.out.symm
    subst k9
    clear hf
    have HP := hide hp
    clear hp hz hfl
    go_enter Try.func26, Try.ntmps26
    go_wp2_with fail
    refine (mapS_any _ _ _ f _ _ _ s true _ (HZ.out.later HB0.out) (by simp [HP.out])).mono ?_
    rintro e w1 ⟨rfl, hb1⟩
    have HB1 := hide (HB0.out.trans (hb1.mono HB0.out.size))
    have HK1 := hide (HK0.out.later hb1)
    have k0 := HK1.out.cell 0 _ rfl
    have k1 := HK1.out.cell 1 _ rfl
    clear hb1
    go_wp2_with fail
    refine (collS_any _ _ _ f _ _ _ s _ (HZ.out.later HB1.out) HP.out).mono ?_
    rintro e w2 ⟨g, q, ys, rfl, hb2, hlo, hown, hres⟩
    have HB2 := hide (HB1.out.trans (hb2.mono HB1.out.size))
    have HRES := hide hres
    have HOWN := hide hown
    have hlo2 : w.heap.size ≤ g := by have := HB1.out.size; omega
    clear hb2 hres k0 k1 hown hlo
    rcases HRES.out with ⟨_, hzs, rfl⟩ | ⟨a', b', hf2, _, _⟩
    · subst hzs
      clear HRES
      go_wp2_with fail
      go_ret2
      exact ⟨_, _, rfl, HB2.out, .inl ⟨rfl, rfl⟩⟩
    · exact absurd HF.out hf2.not
  · have k9 : k = 0 := HKE.out.symm
    subst k9
    have HP := hide hp
    clear hp hz hfl
    go_enter Try.func26, Try.ntmps26
    go_wp2_with fail
    refine (mapS_any _ _ _ f _ _ _ s false _ (HZ.out.later HB0.out) (by simp [HP.out])).mono ?_
    rintro e w1 ⟨rfl, hb1⟩
    have HB1 := hide (HB0.out.trans (hb1.mono HB0.out.size))
    have HK1 := hide (HK0.out.later hb1)
    have k0 := HK1.out.cell 0 _ rfl
    have k1 := HK1.out.cell 1 _ rfl
    clear hb1
    go_wp2_with fail
    clear k0 k1
    go_ret2
    exact ⟨_, _, rfl, HB1.out, .inl ⟨rfl, rfl⟩⟩
end Go.Proofs.Ytanldiildinbdaa
