import Derived.Test.YtgmloaemnbnbgaaZv
import Derived.Test.YtgmloaemnbnbgaaZbh
import Derived.Test.YtgmloaemnbnbgaaZbb
import Derived.Test.YtgmloaemnbnbgaaZbc
import Derived.Test.YtgmloaemnbnbgaaZh
import Derived.RangeFuncLeaves
import Derived.RangeFuncBox
import Derived.LoopNIn
import Derived.LoopIn
import Derived.RegionIn
import Derived.RangeFuncCalls
import Derived.Deep.Cut
namespace Go.Proofs.Ytgmloaemnbnbgaa
open Go Go.RowKit Go.Shelf
attribute [local go_sem] Oper.semAt_some
attribute [local irreducible] serK lstTo siz ser
set_option maxHeartbeats 4000000
/-- Four blocks of the call's own. -/
theorem fb4 (w : World) (o1 o2 o3 o4 : Obj) : ((((w.alloc o1).alloc o2).alloc o3).alloc o4).heap[w.heap.size]? = some o1 ∧ ((((w.alloc o1).alloc o2).alloc o3).alloc o4).heap[w.heap.size + 1]? = some o2 ∧ ((((w.alloc o1).alloc o2).alloc o3).alloc o4).heap[w.heap.size + 2]? = some o3 ∧ ((((w.alloc o1).alloc o2).alloc o3).alloc o4).heap[w.heap.size + 3]? = some o4 := by
  have n : ∀ (u : World) (o : Obj) (b : Nat), b < u.heap.size → (u.alloc o).heap[b]? = u.heap[b]? := fun u o b h => Below.heap_alloc u o b h
  have e2 := World.alloc_heap_new (w.alloc o1) o2
  have e3 := World.alloc_heap_new ((w.alloc o1).alloc o2) o3
  have e4 := World.alloc_heap_new (((w.alloc o1).alloc o2).alloc o3) o4
  rw [World.size_alloc] at e2
  rw [World.size_alloc, World.size_alloc] at e3
  rw [World.size_alloc, World.size_alloc, World.size_alloc] at e4
  refine ⟨(n _ _ _ (by simp; omega)).trans ((n _ _ _ (by simp; omega)).trans ((n _ _ _ (by simp)).trans (World.alloc_heap_new w o1))), (n _ _ _ (by simp)).trans ((n _ _ _ (by simp)).trans e2), (n _ _ _ (by simp)).trans e3, e4⟩
theorem slend {w W wf : World} {r4 r5 : Nat} {t ts : TypeId} {u v a b : Value} (hwf : wf = (W.setCell ⟨r4, 0, none⟩ u).setCell ⟨r5, 0, none⟩ v) (h4 : Blk W r4 ts [a]) (h5 : Blk W r5 t [b]) (hb : Below w.heap.size w W) (h6 : w.heap.size ≤ r4) (h7 : w.heap.size ≤ r5) (hn : r4 ≠ r5) :
    wf.cell? ⟨r4, 0, none⟩ = some u ∧ wf.cell? ⟨r5, 0, none⟩ = some v ∧ Below w.heap.size w wf := by
  have e4 : Blk wf r4 ts [u] := by rw [hwf]; exact (h4.set 0 u).far hn v
  have e5 : Blk wf r5 t [v] := by rw [hwf]; exact (h5.far hn.symm u).set 0 v
  exact ⟨e4.cell 0 _ rfl, e5.cell 0 _ rfl, by rw [hwf]; exact (hb.setCell (p := ⟨r4, 0, none⟩) h6 _).setCell (p := ⟨r5, 0, none⟩) h7 _⟩
set_option maxRecDepth 100000 in
theorem slI (A : Option Addr) (n c : Nat) (f : List (List Int)) (B : Option Addr) (m d : Nat) (s : List (List Int)) (x : Int) (zs : List Int) (code : Int) (kz : Nat) (w : World) (hz : ZArg 1048576 w A n f B m s) (_hx0 : -9223372036854775808 ≤ x) (_hx1 : x ≤ 9223372036854775807) (hr : SlRes f s x zs code) (hk : zs.length = kz) :
    Calls Try.prog 34 #[.agg #[.slice A n c, .slice B m d], .int .i64 x] w (RPost 2 kz zs code w) := by
  have HZ := hide hz
  have HFL := hide hz.sz.fl
  have HSR := hide hr
  have HKZ := hide hk
  by_cases hp : NdS f s
  · obtain rfl := hz.same hp.map
    have h1 := (hp.sizes hz.sz.fl).1
    have h12 := (hp.sizes hz.sz.fl).2.1
    have HG := hide hp
    clear hp hz hk hr
    refine (callsIn_wide (n := 6)).1 ?_
    refine callsIn_of_wp_marks Try.func34 rfl trivial ?_ rfl
    simp only [Try.ntmps34, List.size_toArray, List.length_cons, List.length_nil, Nat.reduceAdd, Nat.reduceSub, Array.replicate_succ, Array.replicate_zero, List.push_toArray, List.append_toArray, List.nil_append, List.cons_append]
    refine wpIn_wide.2 ?_
    go_wp2_with fail
    refine calls_gen fun w0 hw0 => ?_
    have hb0 : Below w.heap.size w w0 := by rw [hw0]; exact ((((Below.refl _ _).alloc (Nat.le_refl _) _).alloc (by simp) _).alloc (by simp; omega) _).alloc (by simp; omega) _
    have HB0 := hide hb0
    have hbl := fb4 w (.cells #[.slice A m c, .slice B m d] 29) (.cells #[.int .i64 x] 2) (.cells #[.slice none 0 0] 26) (.cells #[.int .i64 0] 2)
    rw [← hw0] at hbl
    have HK0 : Hid (Blk w0 w.heap.size 29 [.slice A m c, .slice B m d]) := hide hbl.1
    have HX0 : Hid (Blk w0 (w.heap.size + 1) 2 [.int .i64 x]) := hide hbl.2.1
    have HR0 : Hid (Blk w0 (w.heap.size + 2) 26 [.slice none 0 0]) := hide hbl.2.2.1
    have HC0 : Hid (Blk w0 (w.heap.size + 3) 2 [.int .i64 0]) := hide hbl.2.2.2
    clear hw0 hb0 hbl
    refine (nd7I _ _ _ f _ _ _ s true _ (HZ.out.later HB0.out) (by simp [HG.out])).mono ?_
    rintro e w1 ⟨rfl, hb1⟩
    have HB1 := hide (HB0.out.trans (hb1.mono HB0.out.size))
    have HK1 := hide (HK0.out.later hb1)
    have HX1 := hide (HX0.out.later hb1)
    have HR1 := hide (HR0.out.later hb1)
    have HC1 := hide (HC0.out.later hb1)
    have k0 := HK1.out.cell 0 _ rfl
    have k1 := HK1.out.cell 1 _ rfl
    clear hb1
    go_upto_region 4 with fail
    refine wp_gen fun w2 hw2 => ?_
    have hb2 : Below w1.heap.size w1 w2 := by rw [hw2]; first | exact (Below.refl _ _).alloc (Nat.le_refl _) _ | exact ((Below.refl _ _).alloc (Nat.le_refl _) _).setCell (p := ⟨w1.heap.size, 0, none⟩) (Nat.le_refl _) _
    have HB2 := hide (HB1.out.trans (hb2.mono HB1.out.size))
    have HK2 := hide (HK1.out.later hb2)
    have HX2 := hide (HX1.out.later hb2)
    have HR2 := hide (HR1.out.later hb2)
    have HC2 := hide (HC1.out.later hb2)
    have HQ2 : Hid (Blk w2 w1.heap.size 2 [.int .i64 0]) := hide (by rw [hw2]; first | exact Blk.new _ _ _ | exact (Blk.new _ _ _).set 0 _)
    have HS2 : Hid (w2.heap.size = w1.heap.size + 1) := hide (by rw [hw2]; simp)
    have hq0 : w.heap.size + 3 < w1.heap.size := HC1.out.lt
    clear hw2 hb2 k0 k1
    obtain ⟨q, hq⟩ : ∃ q, w1.heap.size = q := ⟨_, rfl⟩
    rw [hq] at HQ2 HS2 hq0 ⊢
    clear hq
    have k0 := HK2.out.cell 0 _ rfl
    have k1 := HK2.out.cell 1 _ rfl
    go_wp2_with fail
    refine (serC_any _ _ _).mono ?_
    rintro e w3 ⟨rfl, hw3⟩
    have hb3 : Below w2.heap.size w2 w3 := by rw [hw3]; exact (Below.refl _ _).alloc (Nat.le_refl _) _
    have HB3 := hide (HB2.out.trans (hb3.mono HB2.out.size))
    have HX3 := hide (HX2.out.later hb3)
    have HR3 := hide (HR2.out.later hb3)
    have HC3 := hide (HC2.out.later hb3)
    have HQ3 := hide (HQ2.out.later hb3)
    have HP3 : Hid (Blk w3 w2.heap.size 29 [.slice A m c, .slice B m d]) := hide (by rw [hw3]; exact Blk.new _ _ _)
    have HS3 : Hid (w3.heap.size = w2.heap.size + 1) := hide (by rw [hw3]; simp)
    clear hw3 hb3 k0 k1
    go_wp2_with fail
    obtain ⟨pz, hpz⟩ : ∃ pz, w2.heap.size = pz := ⟨_, rfl⟩
    rw [hpz] at HP3 HS2 HS3 ⊢
    clear hpz
    have HNU : ∀ b, w.heap.size ≤ b → b < pz → ¬ (b < w.heap.size ∨ b = pz) := fun b hb hb2 h => by rcases h with h | h <;> omega
    have h0 : ∀ L, w3.heap.size + 2 ≤ L → SlI w w3.heap.size q (w.heap.size + 1) (w.heap.size + 2) (w.heap.size + 3) 2 26 x 0 L (fun b => b < w.heap.size ∨ b = pz) w3 := fun L hL =>
      ⟨⟨HB3.out, by
        have hs1 := HS2.out
        have hs2 := HS3.out
        simp only [List.forall_mem_cons]
        exact ⟨⟨HQ3.out, HNU _ (by omega) (by omega), by omega, by omega, by omega⟩, ⟨HX3.out, HNU _ (by omega) (by omega), by omega, by omega, by omega⟩, ⟨HR3.out, HNU _ (by omega) (by omega), by omega, by omega, by omega⟩, ⟨HC3.out, HNU _ (by omega) (by omega), by omega, by omega, by omega⟩, fun p hp => absurd hp List.not_mem_nil⟩⟩, fun j hj => absurd hj (Nat.not_lt_zero _)⟩
    have HQZ := hide hq0
    clear hq0
    refine (wpIn_wide (n := 5)).1 ?_
    refine wpIn_iterU (gf := 93) (lb := #[.pointer (some ⟨pz, 0, none⟩)]) rfl (enters_of Try.func93 (by kernel_rfl) rfl) (K := serK f s) (T := SerT f s 2 w.heap.size) (U0 := fun b => b < w.heap.size ∨ b = pz) (serI_any m c f A B d s pz _ w w3 HZ.out HG.out HB3.out (fun b hb => .inl hb) (fun b hb => by have hs1 := HS2.out; have hs2 := HS3.out; have := HQZ.out; rcases hb with h | h <;> omega) HP3.out 5) (fun k L v U W h => by exact h.size) (fun k L v U W W' h hk => h.later hk) (fun b hb => by have hs1 := HS2.out; have hs2 := HS3.out; have := HQZ.out; rcases hb with h | h <;> omega)
      (SlI w w3.heap.size q (w.heap.size + 1) (w.heap.size + 2) (w.heap.size + 3) 2 26 x) (fun c _ _ _ W => SlX w w3.heap.size m (w.heap.size + 2) (w.heap.size + 3) 2 26 f s x c W) (fun k L U U' W W' hL h hs hu => ⟨h.1.step (by have hs1 := HS2.out; have hs2 := HS3.out; have := HQZ.out; omega) hs hu, h.2⟩) (fun k L U W b o o' hb hb2 _ ho hc h => ⟨h.1.put o' hb (by have hs1 := HS2.out; have hs2 := HS3.out; have := HQZ.out; omega), h.2⟩) (fun c k L U W b o o' hb _ ho hc h => h.put o' hb ho hc)
      (fun L hL => h0 L (by omega))
      (fun k v a' W => ∃ A2 c2 B2 d2 g2 cl, v = #[.agg #[.slice A2 (siz f s k) c2, .slice B2 (siz f s k) d2], .slice (some ⟨g2, 0, none⟩) f.length cl] ∧ a' = { tmps := #[.agg #[.slice A m c, .slice B m d], .int .i64 x, .pointer (some ⟨w.heap.size, 0, none⟩), .pointer (some ⟨w.heap.size + 1, 0, none⟩), .pointer (some ⟨w.heap.size + 2, 0, none⟩), .pointer (some ⟨w.heap.size + 3, 0, none⟩), .pointer (some ⟨q, 0, none⟩), undef, .slice (some ⟨g2, 0, none⟩) f.length cl, .agg #[.slice A m c, .slice B m d], .bool true, .bool false, .agg #[.slice A m c, .slice B m d], .func (.func 93) #[] #[.pointer (some ⟨pz, 0, none⟩)], .agg #[.slice A2 (siz f s k) c2, .slice B2 (siz f s k) d2], .slice (some ⟨g2, 0, none⟩) f.length cl, undef, undef, undef, undef, undef, undef], defers := [] })
      (fun k v a' W b o o' hb ho hc h => h) ?assign ?body ?done ?stop
    case assign =>
      intro l k L v U W K' hT hsz hK
      obtain ⟨A2, c2, B2, d2, g2, cl, rfl, _, _, _, _⟩ := hT
      gi_wp2
      exact hK _ _ (Below.refl _ _) ⟨A2, c2, B2, d2, g2, cl, rfl, rfl⟩
    case body =>
      rintro l k L v U a' W hk hL hUU hI hT ⟨A2, c2, B2, d2, g2, cl2, rfl, rfl⟩ hsz
      obtain ⟨A9, c9, B9, d9, g9, cl9, e9, hlo9, hd9, _, _⟩ := hT
      injection e9 with e9
      injection e9 with e9 e10
      injection e10 with e10 _
      injection e10 with e10 _ _
      injection e10 with e10
      injection e10 with e10 _ _
      subst e10
      obtain ⟨⟨hblW, hbx⟩, hnot⟩ := hI
      have hbx2 := hbx
      simp only [List.forall_mem_cons] at hbx2
      obtain ⟨b1, b2, b3, b4, _⟩ := hbx2
      have q0 := b1.1.cell 0 _ rfl
      have qf := b1.1.frozen 0
      have x0 := b2.1.cell 0 _ rfl
      have r0 := b3.1.cell 0 _ rfl
      have rf := b3.1.frozen 0
      have s0 := b4.1.cell 0 _ rfl
      have sf := b4.1.frozen 0
      have HB1' := hide b1.1
      have HB2' := hide b2.1
      have HB3' := hide b3.1
      have HB4' := hide b4.1
      have HNU4 := hide (show ¬ U (w.heap.size + 2) ∧ ¬ U (w.heap.size + 3) from ⟨b3.2.1, b4.2.1⟩)
      have HII : Hid (BxI w w3.heap.size [(q, 2, [.int .i64 (k : Int)]), (w.heap.size + 1, 2, [.int .i64 x]), (w.heap.size + 2, 26, [.slice none 0 0]), (w.heap.size + 3, 2, [.int .i64 0])] L U W) := hide ⟨hblW, hbx⟩
      have HNOT := hide hnot
      have HDD := hide hd9
      have HLO := hide hlo9
      have hk12 : k < 12 := Nat.lt_of_le_of_lt hk (serK_lt HG.out)
      have HKK := hide hk
      have gq1 : q ≠ w.heap.size + 2 := by have := HQZ.out; omega
      have gq2 : q ≠ w.heap.size + 3 := by have := HQZ.out; omega
      have gq3 : q ≠ w.heap.size + 1 := by have := HQZ.out; omega
      have gq4 := gq1.symm
      have gq5 := gq2.symm
      clear b1 b2 b3 b4 hbx hblW hnot hd9 hk h0
      rw [HFL.out]
      by_cases hkx : (k : Int) = x
      · subst hkx
        gi_wp2
        exact slRet HII.out HDD.out HLO.out HKK.out rfl (by omega) (by omega) (by omega) (by omega) (by omega)
      · have hbeq : ((k : Int) == x) = false := by simpa using hkx
        gi_wp2
        exact slNext HII.out HNOT.out hkx rfl (by omega) (by omega) (by omega)
    case done =>
      rintro L U W hI hD
      obtain ⟨⟨hblW, hbx⟩, hnot⟩ := hI
      simp only [List.forall_mem_cons] at hbx
      obtain ⟨b1, b2, b3, b4, _⟩ := hbx
      obtain ⟨rfl, rfl⟩ := HSR.out.miss HG.out hnot
      obtain rfl : kz = 0 := by simpa using HKZ.out.symm
      have HBW := hide hblW
      have HR9 := hide b3.1
      have HC9 := hide b4.1
      have r0 := b3.1.cell 0 _ rfl
      have rf := b3.1.frozen 0
      have s0 := b4.1.cell 0 _ rfl
      have sf := b4.1.frozen 0
      have HDD := hide hD
      clear b1 b2 b3 b4 hblW hnot hD h0
      gi_wp2
      go_wp2_with fail
      refine bpm_gen fun wf hwf => ?_
      obtain ⟨hdd, q0, q1, hbf⟩ := slDone (.deferred none) hwf HR9.out HC9.out HBW.out (by omega) (by omega) (by omega) HDD.out (by have hs1 := HS2.out; have hs2 := HS3.out; have := HQZ.out; omega) (by have hs1 := HS2.out; have hs2 := HS3.out; have := HQZ.out; omega)
      clear hwf r0 rf s0 sf
      refine ⟨by simp, .inl ⟨_, _, rfl, run_takeDeferred hdd, ?_⟩⟩
      exact ⟨.tuple #[.slice none 0 0, .int .i64 4], by simp [results, Try.results34, go_sem, q0, q1], _, _, rfl, hbf, .inl ⟨rfl, rfl⟩⟩
    case stop =>
      rintro c k L U W hk hX hD
      obtain ⟨hc, g, cl, j, h2, h3, h4, h5, h6, h7, h8, h9, h10, h11⟩ := hX.put (.deferred none) (Nat.le_refl _) hD rfl
      subst hc
      obtain ⟨hzs, rfl⟩ := HSR.out.hit HG.out h7 h8
      have hkm : kz = m := by rw [← HKZ.out, hzs, sLb_length]; exact HFL.out
      subst hkm
      have q0 := h3.cell 0 _ rfl
      have q1 := h4.cell 0 _ rfl
      gi_wp2
      refine ⟨by simp, .inl ⟨_, _, rfl, run_takeDeferred hD, ?_⟩⟩
      exact ⟨.tuple #[.slice (some ⟨g, 0, none⟩) kz cl, .int .i64 0], by simp [results, Try.results34, go_sem, q0, q1], _, _, rfl, h2, .inr ⟨g, rfl, h5, by rw [hzs]; exact h6⟩⟩
  · obtain ⟨rfl, rfl⟩ := hr.bad hp
    obtain rfl : kz = 0 := by simpa using hk.symm
    have HP := hide hp
    clear hp hz hk hr
    go_enter Try.func34, Try.ntmps34
    go_wp2_with fail
    refine calls_gen fun w0 hw0 => ?_
    have hb0 : Below w.heap.size w w0 := by rw [hw0]; exact ((((Below.refl _ _).alloc (Nat.le_refl _) _).alloc (by simp) _).alloc (by simp; omega) _).alloc (by simp; omega) _
    have HB0 := hide hb0
    have hbl := fb4 w (.cells #[.slice A n c, .slice B m d] 29) (.cells #[.int .i64 x] 2) (.cells #[.slice none 0 0] 26) (.cells #[.int .i64 0] 2)
    rw [← hw0] at hbl
    have HK0 : Hid (Blk w0 w.heap.size 29 [.slice A n c, .slice B m d]) := hide hbl.1
    have HX0 : Hid (Blk w0 (w.heap.size + 1) 2 [.int .i64 x]) := hide hbl.2.1
    have HR0 : Hid (Blk w0 (w.heap.size + 2) 26 [.slice none 0 0]) := hide hbl.2.2.1
    have HC0 : Hid (Blk w0 (w.heap.size + 3) 2 [.int .i64 0]) := hide hbl.2.2.2
    clear hw0 hb0 hbl
    refine (nd7I _ _ _ f _ _ _ s false _ (HZ.out.later HB0.out) (by simp [HP.out])).mono ?_
    rintro e w1 ⟨rfl, hb1⟩
    have HB1 := hide (HB0.out.trans (hb1.mono HB0.out.size))
    have HR1 := hide (HR0.out.later hb1)
    have HC1 := hide (HC0.out.later hb1)
    have r0 := HR1.out.cell 0 _ rfl
    have rf := HR1.out.frozen 0
    have s0 := HC1.out.cell 0 _ rfl
    have sf := HC1.out.frozen 0
    clear hb1
    go_wp2_with fail
    refine bp_gen fun wf hwf => ?_
    obtain ⟨q0, q1, hbf⟩ := slend hwf HR1.out HC1.out HB1.out (by omega) (by omega) (by omega)
    clear hwf r0 rf s0 sf
    exact bodyPost_ret (v := .tuple #[.slice none 0 0, .int .i64 1]) (by simp [results, Try.results34, go_sem, q0, q1]) rfl ⟨_, _, rfl, hbf, .inl ⟨rfl, rfl⟩⟩
end Go.Proofs.Ytgmloaemnbnbgaa
