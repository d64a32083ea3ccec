import Derived.Test.YtljdfanebjhhmaaZbt
import Derived.Test.YtljdfanebjhhmaaZby
import Derived.Test.YtljdfanebjhhmaaZbz
import Derived.Test.YtljdfanebjhhmaaZbn
import Derived.Test.YtljdfanebjhhmaaZca
namespace Go.Proofs.Ytljdfanebjhhmaa
open Go Go.RowKit
set_option maxHeartbeats 1000000
theorem isI_any (A : Option Addr) (n c : Nat) (f : List (List Int)) (B : Option Addr) (m d : Nat) (s : List (List Int)) (r : Bool) (w : World) (hz : ZArg 1048576 w A n f B m s) (hr : IsRes f s r) :
    Calls Try.prog 71 #[.agg #[.slice A n c, .slice B m d]] w fun e w' => e = .returned (.bool r) ∧ Below w.heap.size w w' := by
  have HZ := hide hz
  have HB0 := hide ((Below.refl _ w).alloc (Nat.le_refl _) (Obj.cells #[Value.slice A n c, Value.slice B m d] 46))
  have HK0 := hide (Blk.new w 46 [.slice A n c, .slice B m d])
  have hcs := hr.cases hz.sz.fl
  clear hr hz
  rcases hcs with ⟨hp, rfl⟩ | ⟨hp, T, hT, hq⟩
  · have HP := hide hp
    clear hp
    go_enter Try.func71, Try.ntmps71
    go_wp2_with fail
    refine (mapI_any _ _ _ f _ _ _ s false _ (HZ.out.later HB0.out) (by simp [HP.out])).mono ?_
    rintro e w1 ⟨rfl, hb1⟩
    have HB1 := hide (HB0.out.trans (hb1.mono HB0.out.size))
    have HK1 := hide (HK0.out.later hb1)
    have k0 := HK1.out.cell 0 _ rfl
    have k1 := HK1.out.cell 1 _ rfl
    clear hb1
    go_wp2_with fail
    go_ret
    exact ⟨rfl, HB1.out⟩
  · have HP := hide hp
    have HT := hide hT
    clear hp hT
    have hq2 : (T < n * n * n ∧ r = false) ∨ (T = n * n * n ∧ (Hid (∃ a b, FstCol f s n a b) ∧ r = false ∨ Hid (NoCol f s n) ∧ r = true)) := by
      rcases hq with ⟨h1, ⟨_, h⟩ | ⟨_, h⟩⟩ | ⟨h1, ⟨h2, h⟩ | ⟨h2, h⟩⟩
      · exact .inl ⟨h1, h⟩
      · exact .inl ⟨h1, h⟩
      · exact .inr ⟨h1, .inl ⟨hide h2, h⟩⟩
      · exact .inr ⟨h1, .inr ⟨hide h2, h⟩⟩
    clear hq
    rcases hq2 with ⟨hlt, rfl⟩ | ⟨hte, ⟨HC, rfl⟩ | ⟨HC, rfl⟩⟩
    · go_enter Try.func71, Try.ntmps71
      go_wp2_with fail
      refine (mapI_any _ _ _ f _ _ _ s true _ (HZ.out.later HB0.out) (by simp [HP.out])).mono ?_
      rintro e w1 ⟨rfl, hb1⟩
      have HB1 := hide (HB0.out.trans (hb1.mono HB0.out.size))
      have HK1 := hide (HK0.out.later hb1)
      have k0 := HK1.out.cell 0 _ rfl
      have k1 := HK1.out.cell 1 _ rfl
      clear hb1
      go_wp2_with fail
      refine (fault_any _ _ _ f _ _ _ s T _ (HZ.out.later HB1.out) HP.out HT.out).mono ?_
      rintro e w2 ⟨t, ok, rfl, hb2, hres⟩
      have HB2 := hide (HB1.out.trans (hb2.mono HB1.out.size))
      have HK2 := hide (HK1.out.later hb2)
      have hok : ok = true := by rcases hres with ⟨h1, h2, _⟩ | ⟨h1, h2⟩ <;> first | exact h1 | omega
      subst hok
      clear hb2 hres k0 k1
      unfold tv
      obtain ⟨x, y, z⟩ := t
      have k0 := fun o => (HK2.out.alloc o).cell 0 _ rfl
      have k1 := fun o => (HK2.out.alloc o).cell 1 _ rfl
      go_wp2_with fail
      clear k0 k1
      refine bp_gen fun wf hwf => ?_
      have HBF : Below w.heap.size w wf := by rw [hwf]; exact HB2.out.alloc HB2.out.size _
      clear hwf
      go_ret
      exact ⟨rfl, HBF⟩
    · go_enter Try.func71, Try.ntmps71
      go_wp2_with fail
      refine (mapI_any _ _ _ f _ _ _ s true _ (HZ.out.later HB0.out) (by simp [HP.out])).mono ?_
      rintro e w1 ⟨rfl, hb1⟩
      have HB1 := hide (HB0.out.trans (hb1.mono HB0.out.size))
      have HK1 := hide (HK0.out.later hb1)
      have k0 := HK1.out.cell 0 _ rfl
      have k1 := HK1.out.cell 1 _ rfl
      clear hb1
      go_wp2_with fail
      refine (fault_any _ _ _ f _ _ _ s T _ (HZ.out.later HB1.out) HP.out HT.out).mono ?_
      rintro e w2 ⟨t, ok, rfl, hb2, hres⟩
      have HB2 := hide (HB1.out.trans (hb2.mono HB1.out.size))
      have HK2 := hide (HK1.out.later hb2)
      have hok : ok = false := by rcases hres with ⟨h1, h2, _⟩ | ⟨h1, h2⟩ <;> first | exact h1 | omega
      subst hok
      clear hb2 hres k0 k1
      unfold tv
      obtain ⟨x, y, z⟩ := t
      have k0 := fun o => (HK2.out.alloc o).cell 0 _ rfl
      have k1 := fun o => (HK2.out.alloc o).cell 1 _ rfl
      go_wp2_with fail
      clear k0 k1
      refine calls_gen fun w4 hw4 => ?_
      replace HB2 : Hid (Below w.heap.size w w4) := hide (by rw [hw4]; exact HB2.out.alloc HB2.out.size _)
      clear hw4 HK2
      refine (coll_any _ _ _ f _ _ _ s _ (HZ.out.later HB2.out) HP.out).mono ?_
      rintro e w3 ⟨hb3, hres⟩
      have HB3 := hide (HB2.out.trans (hb3.mono HB2.out.size))
      clear hb3
      obtain ⟨a, b, hf⟩ := HC.out
      rcases hres with ⟨hno, _⟩ | ⟨a', b', _, rfl⟩
      · exact absurd hno hf.not
      · go_wp2_with fail
        refine bp_gen fun wf hwf => ?_
        have HBF : Below w.heap.size w wf := by rw [hwf]; exact (HB3.out.alloc HB3.out.size _).alloc (by have := HB3.out.size; simp; omega) _
        clear hwf
        go_ret
        exact ⟨rfl, HBF⟩
    · go_enter Try.func71, Try.ntmps71
      go_wp2_with fail
      refine (mapI_any _ _ _ f _ _ _ s true _ (HZ.out.later HB0.out) (by simp [HP.out])).mono ?_
      rintro e w1 ⟨rfl, hb1⟩
      have HB1 := hide (HB0.out.trans (hb1.mono HB0.out.size))
      have HK1 := hide (HK0.out.later hb1)
      have k0 := HK1.out.cell 0 _ rfl
      have k1 := HK1.out.cell 1 _ rfl
      clear hb1
      go_wp2_with fail
      refine (fault_any _ _ _ f _ _ _ s T _ (HZ.out.later HB1.out) HP.out HT.out).mono ?_
      rintro e w2 ⟨t, ok, rfl, hb2, hres⟩
      have HB2 := hide (HB1.out.trans (hb2.mono HB1.out.size))
      have HK2 := hide (HK1.out.later hb2)
      have hok : ok = false := by rcases hres with ⟨h1, h2, _⟩ | ⟨h1, h2⟩ <;> first | exact h1 | omega
      subst hok
      clear hb2 hres k0 k1
      unfold tv
      obtain ⟨x, y, z⟩ := t
      have k0 := fun o => (HK2.out.alloc o).cell 0 _ rfl
      have k1 := fun o => (HK2.out.alloc o).cell 1 _ rfl
      go_wp2_with fail
      clear k0 k1
      refine calls_gen fun w4 hw4 => ?_
      replace HB2 : Hid (Below w.heap.size w w4) := hide (by rw [hw4]; exact HB2.out.alloc HB2.out.size _)
      clear hw4 HK2
      refine (coll_any _ _ _ f _ _ _ s _ (HZ.out.later HB2.out) HP.out).mono ?_
      rintro e w3 ⟨hb3, hres⟩
      have HB3 := hide (HB2.out.trans (hb3.mono HB2.out.size))
      clear hb3
      rcases hres with ⟨_, rfl⟩ | ⟨a', b', hf2, _⟩
      · go_wp2_with fail
        refine bp_gen fun wf hwf => ?_
        have HBF : Below w.heap.size w wf := by rw [hwf]; exact (HB3.out.alloc HB3.out.size _).alloc (by have := HB3.out.size; simp; omega) _
        clear hwf
        go_ret
        exact ⟨rfl, HBF⟩
      · exact absurd HC.out hf2.not
end Go.Proofs.Ytljdfanebjhhmaa
namespace Go.Proofs.Ytljdfanebjhhmaa
open Go Go.RowKit
set_option maxHeartbeats 1000000
theorem isS_any (A : Option Addr) (n c : Nat) (f : List (List Int)) (B : Option Addr) (m d : Nat) (s : List (List Int)) (r : Bool) (w : World) (hz : ZArg 1048576 w A n f B m s) (hr : IsRes f s r) :
    Calls Try.prog 69 #[.agg #[.slice A n c, .slice B m d]] w fun e w' => e = .returned (.bool r) ∧ Below w.heap.size w w' := by
  have HZ := hide hz
  have HB0 := hide ((Below.refl _ w).alloc (Nat.le_refl _) (Obj.cells #[Value.slice A n c, Value.slice B m d] 46))
  have HK0 := hide (Blk.new w 46 [.slice A n c, .slice B m d])
  have hcs := hr.cases hz.sz.fl
  clear hr hz
  rcases hcs with ⟨hp, rfl⟩ | ⟨hp, T, hT, hq⟩
  · have HP := hide hp
    clear hp
    go_enter Try.func69, Try.ntmps69
    go_wp2_with fail
    refine (mapS_any _ _ _ f _ _ _ s false _ (HZ.out.later HB0.out) (by simp [HP.out])).mono ?_
    rintro e w1 ⟨rfl, hb1⟩
    have HB1 := hide (HB0.out.trans (hb1.mono HB0.out.size))
    have HK1 := hide (HK0.out.later hb1)
    have k0 := HK1.out.cell 0 _ rfl
    have k1 := HK1.out.cell 1 _ rfl
    clear hb1
    go_wp2_with fail
    go_ret
    exact ⟨rfl, HB1.out⟩
  · have HP := hide hp
    have HT := hide hT
    clear hp hT
    have hq2 : (Hid (∃ a b, FstCol f s n a b) ∧ r = false) ∨ (Hid (NoCol f s n) ∧ ((T < n * n * n ∧ r = false) ∨ (T = n * n * n ∧ r = true))) := by
      rcases hq with ⟨h1, ⟨h2, h⟩ | ⟨h2, h⟩⟩ | ⟨h1, ⟨h2, h⟩ | ⟨h2, h⟩⟩
      · exact .inr ⟨hide h2, .inl ⟨h1, h⟩⟩
      · exact .inl ⟨hide h2, h⟩
      · exact .inl ⟨hide h2, h⟩
      · exact .inr ⟨hide h2, .inr ⟨h1, h⟩⟩
    clear hq
    rcases hq2 with ⟨HC, rfl⟩ | ⟨HC, ⟨hlt, rfl⟩ | ⟨hte, rfl⟩⟩
    · go_enter Try.func69, Try.ntmps69
      go_wp2_with fail
      refine (mapS_any _ _ _ f _ _ _ s true _ (HZ.out.later HB0.out) (by simp [HP.out])).mono ?_
      rintro e w1 ⟨rfl, hb1⟩
      have HB1 := hide (HB0.out.trans (hb1.mono HB0.out.size))
      have HK1 := hide (HK0.out.later hb1)
      have k0 := HK1.out.cell 0 _ rfl
      have k1 := HK1.out.cell 1 _ rfl
      clear hb1
      go_wp2_with fail
      refine (collS_any _ _ _ f _ _ _ s _ (HZ.out.later HB1.out) HP.out).mono ?_
      rintro e w2 ⟨g, q, ys, rfl, hb2, _, _, hres⟩
      have HB2 := hide (HB1.out.trans (hb2.mono HB1.out.size))
      have HK2 := hide (HK1.out.later hb2)
      have hq9 : q = 4 := by obtain ⟨a, b, hf⟩ := HC.out; rcases hres with ⟨hno, _⟩ | ⟨a', b', _, _, h⟩; exact absurd hno hf.not; exact h
      subst hq9
      clear hb2 hres k0 k1
      have k0 := HK2.out.cell 0 _ rfl
      have k1 := HK2.out.cell 1 _ rfl
      go_wp2_with fail
      go_ret
      exact ⟨rfl, HB2.out⟩
    · go_enter Try.func69, Try.ntmps69
      go_wp2_with fail
      refine (mapS_any _ _ _ f _ _ _ s true _ (HZ.out.later HB0.out) (by simp [HP.out])).mono ?_
      rintro e w1 ⟨rfl, hb1⟩
      have HB1 := hide (HB0.out.trans (hb1.mono HB0.out.size))
      have HK1 := hide (HK0.out.later hb1)
      have k0 := HK1.out.cell 0 _ rfl
      have k1 := HK1.out.cell 1 _ rfl
      clear hb1
      go_wp2_with fail
      refine (collS_any _ _ _ f _ _ _ s _ (HZ.out.later HB1.out) HP.out).mono ?_
      rintro e w2 ⟨g, q, ys, rfl, hb2, _, _, hres⟩
      have HB2 := hide (HB1.out.trans (hb2.mono HB1.out.size))
      have HK2 := hide (HK1.out.later hb2)
      have hq9 : q = 0 := by rcases hres with ⟨_, _, h⟩ | ⟨a', b', hf2, _⟩; exact h; exact absurd HC.out hf2.not
      subst hq9
      clear hb2 hres k0 k1
      have k0 := HK2.out.cell 0 _ rfl
      have k1 := HK2.out.cell 1 _ rfl
      go_wp2_with fail
      refine (faultS_any _ _ _ f _ _ _ s T _ (HZ.out.later HB2.out) HP.out HT.out).mono ?_
      rintro e w3 ⟨g3, q3, ys3, rfl, hb3, _, _, hres⟩
      have HB3 := hide (HB2.out.trans (hb3.mono HB2.out.size))
      have hq9 : q3 = 3 := by rcases hres with ⟨h1, _, h2⟩ | ⟨h1, _, h2⟩ <;> omega
      subst hq9
      clear hb3 hres k0 k1
      go_wp2_with fail
      go_ret
      exact ⟨rfl, HB3.out⟩
    · go_enter Try.func69, Try.ntmps69
      go_wp2_with fail
      refine (mapS_any _ _ _ f _ _ _ s true _ (HZ.out.later HB0.out) (by simp [HP.out])).mono ?_
      rintro e w1 ⟨rfl, hb1⟩
      have HB1 := hide (HB0.out.trans (hb1.mono HB0.out.size))
      have HK1 := hide (HK0.out.later hb1)
      have k0 := HK1.out.cell 0 _ rfl
      have k1 := HK1.out.cell 1 _ rfl
      clear hb1
      go_wp2_with fail
      refine (collS_any _ _ _ f _ _ _ s _ (HZ.out.later HB1.out) HP.out).mono ?_
      rintro e w2 ⟨g, q, ys, rfl, hb2, _, _, hres⟩
      have HB2 := hide (HB1.out.trans (hb2.mono HB1.out.size))
      have HK2 := hide (HK1.out.later hb2)
      have hq9 : q = 0 := by rcases hres with ⟨_, _, h⟩ | ⟨a', b', hf2, _⟩; exact h; exact absurd HC.out hf2.not
      subst hq9
      clear hb2 hres k0 k1
      have k0 := HK2.out.cell 0 _ rfl
      have k1 := HK2.out.cell 1 _ rfl
      go_wp2_with fail
      refine (faultS_any _ _ _ f _ _ _ s T _ (HZ.out.later HB2.out) HP.out HT.out).mono ?_
      rintro e w3 ⟨g3, q3, ys3, rfl, hb3, _, _, hres⟩
      have HB3 := hide (HB2.out.trans (hb3.mono HB2.out.size))
      have hq9 : q3 = 0 := by rcases hres with ⟨h1, _, h2⟩ | ⟨h1, _, h2⟩ <;> omega
      subst hq9
      clear hb3 hres k0 k1
      go_wp2_with fail
      go_ret
      exact ⟨rfl, HB3.out⟩
end Go.Proofs.Ytljdfanebjhhmaa
