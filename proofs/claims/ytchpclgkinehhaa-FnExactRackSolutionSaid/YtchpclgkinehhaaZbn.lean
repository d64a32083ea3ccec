import Derived.Test.YtchpclgkinehhaaZbi
import Derived.Test.YtchpclgkinehhaaZt
import Derived.Test.YtchpclgkinehhaaZn
import Derived.Test.YtchpclgkinehhaaZbc
import Derived.Test.YtchpclgkinehhaaZbl
import Derived.Test.YtchpclgkinehhaaZy
import Derived.Test.YtchpclgkinehhaaZax
import Derived.Deep.AppendLies
namespace Go.Proofs.Ytchpclgkinehhaa
open Go Go.RowKit
set_option maxHeartbeats 4000000
theorem rsoInfo2 : (Try.prog.info? 31).map (fun i => (i.zero, i.size, i.bytes)) = some (some (.slice none 0 0), 1, 24) := by kernel_rfl
theorem sndG_take (f : List (List Int)) (x : Nat) (hx : x < f.length) : (sndG f).take (x + 1) = (sndG f).take x ++ [List.replicate f.length (x : Int)] := by
  have hl : x < (sndG f).length := by rw [sndG, grid_length]; exact hx
  rw [List.take_succ_eq_append_getElem hl]
  congr 1
  simp only [sndG, grid, List.getElem_map, List.getElem_range]
  congr 1
  apply List.ext_getElem (by simp)
  intro i h1 h2
  simp
/-- A table keeps where its blocks keep. -/
theorem Obj2.same {ts t : TypeId} {lo hi : Nat} {w w' : World} {A : Option Addr} {rows : List (List Int)} (h : Obj2 ts t lo hi w A rows) (hs : ∀ k, lo ≤ k → k < hi → w'.heap[k]? = w.heap[k]?) : Obj2 ts t lo hi w' A rows := by
  rcases h with h | ⟨g, R, C, e, a, b, ⟨cur, c1, c2⟩, d, f⟩
  · exact .inl h
  · refine .inr ⟨g, R, C, e, a, b, ⟨cur, (hs g a b).trans c1, c2⟩, fun i hi' => ?_, f⟩
    rcases d i hi' with h | ⟨g2, h1, h2, h3, h4⟩
    · exact .inl h
    · exact .inr ⟨g2, h1, h2, h3, h4.of_block (hs g2 h2 h3)⟩

set_option maxRecDepth 100000 in
theorem solS_any (A : Option Addr) (n c : Nat) (f : List (List Int)) (w : World) (hn : f.length = n) (ht : Tbl f) (hr : Rd2 w A f) :
    Calls Try.prog 67 #[.agg #[.slice A n c]] w fun e w' => ∃ A' c' B' d', e = .returned (.agg #[.slice A' n c', .slice B' n d']) ∧ Below w.heap.size w w' ∧ ObjW 31 2 w.heap.size w'.heap.size w' A' f B' (sndG f) := by
  have h1 : 1 ≤ n := by rw [← hn]; exact ht.1
  have h12 : n ≤ 12 := by rw [← hn]; exact ht.2.1
  have HN := hide hn
  have HTB := hide ht
  have HR := hide hr
  have HSL : Hid ((sndG f).length = n) := hide (by rw [sndG, grid_length]; exact hn)
  have HB0 := hide (((Below.refl _ w).alloc (Nat.le_refl _) (Obj.cells #[Value.slice A n c] 27)).alloc (by simp) (Obj.cells #[.slice none 0 0, .slice none 0 0] 40))
  have HK0 := hide ((Blk.new w 27 [.slice A n c]).alloc (Obj.cells #[.slice none 0 0, .slice none 0 0] 40))
  have HR0 : Hid (Blk ((w.alloc (Obj.cells #[Value.slice A n c] 27)).alloc (Obj.cells #[.slice none 0 0, .slice none 0 0] 40)) (w.heap.size + 1) 40 [.slice none 0 0, .slice none 0 0]) := hide (by have h := Blk.new (w.alloc (Obj.cells #[Value.slice A n c] 27)) 40 [.slice none 0 0, .slice none 0 0]; simpa using h)
  obtain ⟨i0, hi, hz0, hz1, hz2⟩ := info_parts kqInfo
  obtain ⟨i2, hj, hy0, hy1, hy2⟩ := info_parts rsoInfo2
  clear hn ht hr
  go_enter Try.func67, Try.ntmps67
  have k0 := HK0.out.cell 0 _ rfl
  go_wp2_with fail
  clear k0
  refine (ownk_any A n c f _ HN.out h1 (by omega) (fun i hi => HTB.out.row_len HN.out (by have := HN.out; omega)) (HR.out.later HB0.out)).mono ?_
  rintro e w1 ⟨A1, c1, rfl, hb1, ho1⟩
  have HB1 := hide (HB0.out.trans (hb1.mono HB0.out.size))
  have HK1 := hide (HK0.out.later hb1)
  have HR1 := hide (HR0.out.later hb1)
  have HF1 : Hid (Obj2 31 2 (w.heap.size + 1 + 1) w1.heap.size w1 A1 f) := hide (by simpa using ho1)
  have hlow1 : w.heap.size + 1 < w1.heap.size := HR1.out.lt
  clear hb1 ho1
  go_wp2_with fail
  refine wp_gen fun w2 hw2 => ?_
  obtain ⟨ob, hob⟩ : ∃ ob, w1.heap.size = ob := ⟨_, rfl⟩
  have hal : Below w1.heap.size w1 w2 := by rw [hw2]; exact (Below.refl _ _).alloc (Nat.le_refl _) _
  have HB2 := hide (HB1.out.trans (hal.mono HB1.out.size))
  have HK2 := hide (HK1.out.later hal)
  have HR2 := hide (HR1.out.later hal)
  have HF2 : Hid (Obj2 31 2 (w.heap.size + 1 + 1) ob w2 A1 f) := hide (by rw [← hob]; exact HF1.out.later hal)
  have HO2 : Hid (Blk w2 ob 40 [.slice A1 n c1, .slice none 0 0]) := hide (by rw [hw2, ← hob]; exact Blk.new w1 40 [.slice A1 n c1, .slice none 0 0])
  have HT2 : Hid (One 31 2 40 (ob + 1) w2 ob 1 [.slice A1 n c1, .slice none 0 0] (.slice none 0 0) [] []) := hide (One.start w2 _ _ _ HO2.out (Nat.lt_succ_self _) HO2.out.lt)
  have hob1 : w.heap.size + 1 < ob := by rw [← hob]; exact hlow1
  rw [hob]
  clear hw2 hob hal hlow1
  go_loopw [4] (fun i wr => ∃ (x : Nat) (v : Value) (vals : List Value), x ≤ n ∧ i = .int .i64 x ∧ Below w.heap.size w wr ∧ Blk wr w.heap.size 27 [.slice A n c] ∧ Blk wr (w.heap.size + 1) 40 [.slice none 0 0, .slice none 0 0] ∧ Obj2 31 2 (w.heap.size + 1 + 1) ob wr A1 f ∧ One 31 2 40 (ob + 1) wr ob 1 [.slice A1 n c1, .slice none 0 0] v ((sndG f).take x) vals) (fun i _ => n - (intOf i).toNat)
  case atStart => exact ⟨0, _, _, Nat.zero_le _, rfl, HB2.out, HK2.out, HR2.out, HF2.out, by simpa using HT2.out⟩
  case round =>
    obtain ⟨x, v, vals, hx, rfl, hbe, hkk, hrr, hff, htw⟩ := hrel
    clear HB2 HK2 HR2 HT2 HO2 HF2
    have HB := hide hbe
    have HK := hide hkk
    have HRR := hide hrr
    have HF := hide hff
    have HT := hide htw
    clear hbe hkk hrr hff htw
    have k0 := HK.out.cell 0 _ rfl
    by_cases hlt : x < n
    · have hxz : (x : Int) < n := by omega
      go_wp2_with fail
      clear k0
      obtain ⟨wo, rfl⟩ : ∃ wo : World, wo = wr := ⟨_, rfl⟩
      go_loopw [5, 6] (fun v i wi => ∃ y : Nat, y ≤ n ∧ i = .int .i64 y ∧ Below wo.heap.size wo wi ∧ wo.heap.size < wi.heap.size ∧ wi.ownsRow wo.heap.size 2 1 v y (ints (List.replicate y (x : Int)))) (fun _ i _ => n - (intOf i).toNat)
      case atStart => exact ⟨0, Nat.zero_le _, rfl, (Below.refl _ _).alloc (Nat.le_refl _) _, by simp, kq_empty wo _⟩
      case round =>
        obtain ⟨y, hy, rfl, hbi, hsi, hoi⟩ := hrel
        have HBI := hide hbi
        have HOI := hide hoi
        clear hbi hoi
        have k0 := (HK.out.later HBI.out).cell 0 _ rfl
        by_cases hlty : y < n
        · have hyz : (y : Int) < n := by omega
          go_wp2_with (at_builtin; refine wpList_append_own _ rfl _ _ 31 rfl wo.heap.size 2 i0 (.int .i64 0) 1 8 Try.underlying31 hi hz0 hz1 hz2 rfl (by decide) _ _ _ rfl (HOI.out.alloc _) ⟨wr.heap.size, 0, none⟩ 1 1 [.int .i64 (x : Int)] rfl rfl ?c1 ?c2 ?c3 ?c4 ?c5 ?_)
          case c1 => exact kq_new
          case c2 => intro u hu; simp at hu; subst hu; rfl
          case c3 => unfold maxLen; omega
          case c4 => omega
          case c5 => simp; omega
          intro v' w3 hown' hgrow _
          have HO3 := hide hown'
          have HB3 : Hid (Below wo.heap.size wo w3) := hide ((HBI.out.alloc HBI.out.size _).grown hgrow (by have := HBI.out.size; simp; omega) (fun g hg => ((HOI.out.alloc (.cells #[.int .i64 (x : Int)] 2)).lt g hg).1))
          have hs3 : wo.heap.size < w3.heap.size := by have := hgrow.size; simp at this; omega
          clear hown' hgrow k0
          go_wp2_with fail
          go_roundw
          case rel => exact ⟨y + 1, by omega, by go_num, HB3.out, hs3, by have h := HO3.out; rw [List.replicate_succ']; unfold ints at h ⊢; rw [List.map_append]; exact h⟩
          case measure => simp [intOf]; omega
        · have hyn : y = n := by omega
          subst hyn
          have HTM : Hid (((sndG f).take x).length = x) := hide (by rw [List.length_take]; have := HSL.out; omega)
          obtain ⟨A2, c2, hv2, hres2⟩ := own_shape HOI.out
          subst hv2
          have HRO := hide hres2.obj
          have HT3 := hide (HT.out.later HBI.out)
          have HR3 := hide (HRR.out.later HBI.out)
          have HK3 := hide (HK.out.later HBI.out)
          have HF3 := hide (HF.out.later HBI.out)
          have HB3 := hide (HB.out.trans (HBI.out.mono HB.out.size))
          clear hres2
          have j0 := HT3.out.box.cell 0 _ rfl
          have j1 := HT3.out.box.cell 1 _ rfl
          have j2 := HT3.out.box.frozen 0
          have j3 := HT3.out.box.frozen 1
          have j4 := fun o => (HT3.out.box.alloc o).cell 1 _ rfl
          have HOW2 : Hid (wr.ownsRow (ob + 1) 31 1 v x vals) := hide (by have h := HT3.out.l.own; rw [HTM.out] at h; exact h)
          have hobl := HT3.out.box.lt
          have hbsz := HT3.out.bsz
          go_wp2_with (at_builtin; refine wpList_append_own_at _ rfl _ _ 22 rfl (ob + 1) 31 i2 (.slice none 0 0) 1 24 Try.underlying22 hj hy0 hy1 hy2 rfl (by decide) _ _ _ rfl (HOW2.out.alloc _) ⟨wr.heap.size, 0, none⟩ 1 1 [.slice A2 y c2] rfl rfl ?c1 ?c2 ?c3 ?c4 ?c5 ?_)
          case c1 => exact kq_new
          case c2 => intro u hu; simp at hu; subst hu; rfl
          case c3 => unfold maxLen; omega
          case c4 => omega
          case c5 => simp; omega
          intro v' w7 hown7 hgrow7 _ hat7
          obtain ⟨gg2, cap2, hv7⟩ := own_form hown7
          subst hv7
          have hbk := HT3.out.kept hgrow7
          have HT4 := hide (One.add (by decide) HT.out HT3.out (Nat.le_refl _) HRO.out HTM.out (by simp) hown7 hgrow7)
          have HB4 := hide (HT3.out.below hgrow7 (.slice (some ⟨gg2, 0, none⟩) (x + 1) cap2) HB3.out (by omega))
          have HK4 := hide ((HT3.out.frame hgrow7 (.slice (some ⟨gg2, 0, none⟩) (x + 1) cap2) (by omega) (by omega) HK3.out.lt).trans HK3.out)
          have HR4 := hide ((HT3.out.frame hgrow7 (.slice (some ⟨gg2, 0, none⟩) (x + 1) cap2) (by omega) (by omega) HR3.out.lt).trans HR3.out)
          have HF4 := hide (HF3.out.same (fun k h1 h2 => HT3.out.frame hgrow7 (.slice (some ⟨gg2, 0, none⟩) (x + 1) cap2) (by omega) (by omega) (by omega)))
          clear j0 j1 j2 j3 j4 k0 hown7 hgrow7 hat7
          have j0 := hbk.cell 0 _ rfl
          have j1 := hbk.cell 1 _ rfl
          have j2 := hbk.frozen 0
          have j3 := hbk.frozen 1
          clear hbk
          go_wp2_with fail
          go_roundw
          case rel =>
            refine ⟨x + 1, .slice (some ⟨gg2, 0, none⟩) (x + 1) cap2, vals ++ [.slice A2 y c2], by omega, by go_num, HB4.out, HK4.out, HR4.out, HF4.out, ?_⟩
            rw [sndG_take f x (by have := HN.out; omega), HN.out]
            exact HT4.out
          case measure => simp [intOf]; omega
    · have hxn : x = n := by omega
      subst hxn
      obtain ⟨A2, c2, hv2, ho2⟩ := HT.out.l.shape
      rw [List.take_of_length_le (by have := HSL.out; omega)] at hv2 ho2
      rw [HSL.out] at hv2
      subst hv2
      have HA2 := hide ho2
      clear ho2
      have hobl := HT.out.box.lt
      have j0 := HT.out.box.cell 0 _ rfl
      have j1 := HT.out.box.cell 1 _ rfl
      have k2 := HRR.out.cell 0 _ rfl
      have k3 := HRR.out.cell 1 _ rfl
      have k4 := HRR.out.frozen 0
      have k5 := HRR.out.frozen 1
      go_wp2_with fail
      refine bp_gen fun wf hwf => ?_
      obtain ⟨q0, q1, hbf, hof⟩ := wend2 (ts := 31) (t := 2) (f := f) (s := sndG f) hwf HRR.out (by omega) HB.out (ObjT.of HF.out (Nat.le_refl _) (by omega)) (ObjT.of HA2.out (by omega) (Nat.le_refl _))
      clear hwf j0 j1 k0 k2 k3 k4 k5
      exact bodyPost_ret (v := .agg #[.slice A1 x c1, .slice A2 x c2]) (by simp [results, Try.results67, go_sem, q0, q1]) rfl ⟨_, _, _, _, rfl, hbf, hof⟩

set_option maxRecDepth 100000 in
theorem rsoS_any (A : Option Addr) (n c : Nat) (f : List (List Int)) (zf zg : List (List Int)) (code : Int) (k kw : Nat) (w : World) (hn : f.length = n) (hb : n ≤ 1048576) (hbs : ∀ i, i < f.length → (f.getD i []).length ≤ 1048576) (hr : Rd2 w A f) (hres : RsoRes f zf zg code) (hk : ZSz 1048576 zf k zg kw) :
    Calls Try.prog 28 #[.agg #[.slice A n c]] w (fun e w' => ∃ A' c' B' d', e = .returned (.tuple #[.agg #[.slice A' k c', .slice B' kw d'], .int .i64 code]) ∧ Below w.heap.size w w' ∧ ObjW 31 2 w.heap.size w'.heap.size w' A' zf B' zg) := by
  have HN := hide hn
  have HBS := hide hbs
  have HRD := hide hr
  have HB0 := hide (((Below.refl _ w).alloc (Nat.le_refl _) (Obj.cells #[Value.slice A n c] 27)).alloc (by simp) (Obj.cells #[.slice none 0 0, .slice none 0 0] 40))
  have HK0 := hide ((Blk.new w 27 [.slice A n c]).alloc (Obj.cells #[.slice none 0 0, .slice none 0 0] 40))
  have HR0 : Hid (Blk ((w.alloc (Obj.cells #[Value.slice A n c] 27)).alloc (Obj.cells #[.slice none 0 0, .slice none 0 0] 40)) (w.heap.size + 1) 40 [.slice none 0 0, .slice none 0 0]) := hide (by have h := Blk.new (w.alloc (Obj.cells #[Value.slice A n c] 27)) 40 [.slice none 0 0, .slice none 0 0]; simpa using h)
  rcases hres with ⟨hp, rfl, rfl, rfl⟩ | ⟨hp, rfl, rfl, rfl⟩
  · have hk1 : k = n := by rw [← hk.fl, hn]
    have hk2 : kw = n := by rw [← hk.sl, sndG, grid_length, hn]
    subst hk1
    subst hk2
    have HTB := hide hp.tbl
    clear hk
    have HRK : Hid (RkRes f true) := hide (by unfold RkRes; simp [hp])
    have HP := hide hp
    clear hn hbs hr hp
    go_enter Try.func28, Try.ntmps28
    go_wp2_with fail
    refine (isRackS _ _ _ f true _ HN.out hb HBS.out (HRD.out.later HB0.out) HRK.out).mono ?_
    rintro e w1 ⟨rfl, hb1⟩
    have HB1 := hide (HB0.out.trans (hb1.mono HB0.out.size))
    have HK1 := hide (HK0.out.later hb1)
    have HR1 := hide (HR0.out.later hb1)
    clear hb1
    have k0 := HK1.out.cell 0 _ rfl
    go_wp2_with fail
    clear k0
    refine (solS_any _ _ _ _ _ HN.out HTB.out (HRD.out.later HB1.out)).mono ?_
    rintro e w2 ⟨A3, c3, B3, d3, rfl, hb2, hobj⟩
    have HB2 := hide (HB1.out.trans (hb2.mono HB1.out.size))
    have HR2 := hide (HR1.out.later hb2)
    have HO := hide hobj
    have hlt1 := HR1.out.lt
    clear hb2 hobj
    have k2 := HR2.out.cell 0 _ rfl
    have k3 := HR2.out.cell 1 _ rfl
    have k4 := HR2.out.frozen 0
    have k5 := HR2.out.frozen 1
    go_wp2_with fail
    refine bp_gen fun wf hwf => ?_
    obtain ⟨q0, q1, hbf, hof⟩ := wend hwf HR2.out (by omega) hlt1 HB2.out HB1.out.size HO.out
    clear hwf k2 k3 k4 k5
    exact bodyPost_ret (v := .tuple #[.agg #[.slice A3 kw c3, .slice B3 kw d3], .int .i64 0]) (by simp [results, Try.results28, go_sem, q0, q1]) rfl ⟨_, _, _, _, rfl, hbf, hof⟩
  · have hk1 : k = 0 := by rw [← hk.fl]; rfl
    have hk2 : kw = 0 := by rw [← hk.sl]; rfl
    subst hk1
    subst hk2
    clear hk
    have HRK : Hid (RkRes f false) := hide (by unfold RkRes; simp [hp])
    have HP := hide hp
    clear hn hbs hr hp
    go_enter Try.func28, Try.ntmps28
    go_wp2_with fail
    refine (isRackS _ _ _ f false _ HN.out hb HBS.out (HRD.out.later HB0.out) HRK.out).mono ?_
    rintro e w1 ⟨rfl, hb1⟩
    have HB1 := hide (HB0.out.trans (hb1.mono HB0.out.size))
    have HK1 := hide (HK0.out.later hb1)
    have HR1 := hide (HR0.out.later hb1)
    clear hb1
    have k2 := HR1.out.cell 0 _ rfl
    have k3 := HR1.out.frozen 0
    have k4 := HR1.out.cell 1 _ rfl
    have k5 := HR1.out.frozen 1
    go_wp2_with fail
    refine bp_gen fun wf hwf => ?_
    have HRF : Blk wf (w.heap.size + 1) 40 [.slice none 0 0, .slice none 0 0] := by rw [hwf]; first | exact HR1.out | exact HR1.out.set 0 _ | exact (HR1.out.set 0 _).set 1 _
    have hbf : Below w.heap.size w wf := by rw [hwf]; first | exact HB1.out | exact HB1.out.setCell (p := ⟨w.heap.size + 1, 0, none⟩) (by show w.heap.size ≤ w.heap.size + 1; omega) _ | exact (HB1.out.setCell (p := ⟨w.heap.size + 1, 0, none⟩) (by show w.heap.size ≤ w.heap.size + 1; omega) _).setCell (p := ⟨w.heap.size + 1, 1, none⟩) (by show w.heap.size ≤ w.heap.size + 1; omega) _
    have q0 := HRF.cell 0 _ rfl
    have q1 := HRF.cell 1 _ rfl
    clear hwf k2 k3
    exact bodyPost_ret (v := .tuple #[.agg #[.slice none 0 0, .slice none 0 0], .int .i64 1]) (by simp [results, Try.results28, go_sem, q0, q1]) rfl ⟨_, _, _, _, rfl, hbf, ObjW.empty⟩

end Go.Proofs.Ytchpclgkinehhaa
