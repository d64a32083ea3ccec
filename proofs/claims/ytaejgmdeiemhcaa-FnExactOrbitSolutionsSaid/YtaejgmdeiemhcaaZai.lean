import Derived.Test.YtaejgmdeiemhcaaZm
import Derived.Test.YtaejgmdeiemhcaaZaa
import Derived.Test.YtaejgmdeiemhcaaZf
import Derived.Test.YtaejgmdeiemhcaaZe
import Derived.Test.YtaejgmdeiemhcaaZj
import Derived.Test.YtaejgmdeiemhcaaZi
import Derived.Deep.Cut
import Derived.Deep.RegionHeld3
import Derived.Deep.AppendLies
namespace Go.Proofs.Ytaejgmdeiemhcaa
open Go Go.RowKit
set_option maxHeartbeats 2000000
theorem ccInfo2 : (Try.prog.info? 37).map (fun i => (i.zero, i.size, i.bytes)) = some (some (.slice none 0 0), 1, 24) := by kernel_rfl
/-- A list of rows that is read, as its cells. -/
theorem Rd2.look {w : World} {A : Option Addr} {f : List (List Int)} (h : Rd2 w A f) (h0 : 0 < f.length) : ∃ (b o : Nat) (va : List Value), A = some ⟨b, o, none⟩ ∧ b < w.heap.size ∧ va.length = f.length ∧ (∀ i u, va[i]? = some u → w.cell? ⟨b, o + i, none⟩ = some u) ∧ (∀ u ∈ va, u.oneCell' = true) ∧ ∀ i, i < f.length → ∃ Ai ci, va[i]? = some (.slice Ai (f.getD i []).length ci) ∧ Rd w Ai (f.getD i []) := by
  obtain ⟨b, o, rfl, hb, hc⟩ := h h0
  have hc' : ∀ i : Fin f.length, ∃ p : Option Addr × Nat, w.cell? ⟨b, o + i.val, none⟩ = some (.slice p.1 (f.getD i.val []).length p.2) ∧ Rd w p.1 (f.getD i.val []) := fun i => by
    obtain ⟨Ax, cx, h1, h2⟩ := hc i.val i.isLt
    exact ⟨(Ax, cx), h1, h2⟩
  obtain ⟨R, hR⟩ := Classical.axiomOfChoice hc'
  refine ⟨b, o, List.ofFn (fun i : Fin f.length => Value.slice (R i).1 (f.getD i.val []).length (R i).2), rfl, hb, by simp, fun i u hu => ?_, fun u hu => ?_, fun i hi => ⟨(R ⟨i, hi⟩).1, (R ⟨i, hi⟩).2, by simp [hi], (hR ⟨i, hi⟩).2⟩⟩
  · obtain ⟨hi, rfl⟩ := List.getElem?_eq_some_iff.1 hu
    have hi' : i < f.length := by simpa using hi
    simpa [hi'] using (hR ⟨i, hi'⟩).1
  · obtain ⟨i, rfl⟩ := (List.mem_ofFn).1 hu
    rfl
set_option maxRecDepth 100000 in
theorem grow0_any (n : Nat) (w : World) (hn : n ≤ 4096) (h1 : 1 ≤ n) :
    Calls Try.prog 123 #[.slice none 0 0, .int .i64 n] w fun e w' => ∃ g c, e = .returned (.slice (some ⟨g, 0, none⟩) 0 c) ∧ Below w.heap.size w w' ∧ w'.ownsRow w.heap.size 37 1 (.slice (some ⟨g, 0, none⟩) 0 c) 0 [] := by
  have hnz : ¬ ((n : Int) < 0) := by omega
  have hpz : (0 : Int) < n := by omega
  have hby0 : Try.t37.bytes = 24 := by kernel_rfl
  have hby : ¬ (281474976710656 < (n : Int) * (Try.t37.bytes : Int)) := by rw [hby0]; omega
  have hnx : ¬ (281474976710656 < Builtin.nextslicecap n 0 * 24) := by
    unfold Builtin.nextslicecap
    rw [if_pos (by omega)]
    omega
  have hge := grownCap_ge w n 0 37
  have hle := grownCap_le_maxLen w n 0 37 (by unfold maxLen; omega)
  have HGE := hide hge
  have HLE := hide hle
  clear hge hle
  go_enter Try.func123, Try.ntmps123
  go_wp2_with fail
  go_ret
  obtain ⟨cap, hcap⟩ : ∃ cap, (Question.appendCap n 0 37).cut (w.tape w.drawn (Question.appendCap n 0 37)) = cap := ⟨_, rfl⟩
  have h2 : n ≤ cap := by rw [← hcap]; exact HGE.out
  have h3 : cap ≤ maxLen := by rw [← hcap]; exact HLE.out
  rw [hcap]
  refine ⟨w.heap.size, cap, rfl, ((Below.refl _ _).alloc (Nat.le_refl _) _).drew, by simp, .inr ⟨w.heap.size, cap, _, rfl, Nat.le_refl _, heap_alloc_new _ _, Nat.zero_le _, h3, ?_, by simp⟩⟩
  simp [Builtin.zeroCells]
  omega
theorem addr_addC (b o j : Nat) : (⟨b, o, none⟩ : Addr).add j = ⟨b, o + j, none⟩ := by
  cases j with
  | zero => rfl
  | succ j => simp [Addr.add]
/-- What lies in the new list when k of the two lists are in it. -/
def catV (va vb : List Value) : Nat → List Value
  | 0 => []
  | 1 => va
  | _ => va ++ vb
def catN (n1 n2 : Nat) : Nat → Nat
  | 0 => 0
  | 1 => n1
  | _ => n1 + n2
set_option maxRecDepth 100000 in
theorem concat2_any (A : Option Addr) (n1 c1 : Nat) (f : List (List Int)) (B : Option Addr) (n2 c2 : Nat) (g : List (List Int)) (bq : Nat) (w : World) (hn1 : f.length = n1) (hn2 : g.length = n2) (h1 : 1 ≤ n1) (h2 : 1 ≤ n2) (hb1 : n1 ≤ 1024) (hb2 : n2 ≤ 1024) (hA : Rd2 w A f) (hB : Rd2 w B g) (hq : Blk w bq 22 [.slice A n1 c1, .slice B n2 c2]) :
    Calls Try.prog 96 #[.slice (some ⟨bq, 0, none⟩) 2 2] w fun e w' => ∃ A' c', e = .returned (.slice A' (n1 + n2) c') ∧ Below w.heap.size w w' ∧ Rd2 w' A' (f ++ g) := by
  obtain ⟨i0, hi, hz0, hz1, hz2⟩ := info_parts ccInfo2
  obtain ⟨b1, o1, va, rfl, hbw1, hva, hca, ha1, hra⟩ := hA.look (by omega)
  obtain ⟨b2, o2, vb, rfl, hbw2, hvb, hcb, hbb1, hrb⟩ := hB.look (by omega)
  have HVA := hide hva
  have HVB := hide hvb
  have HCA := hide hca
  have HCB := hide hcb
  have HA1 := hide ha1
  have HB1 := hide hbb1
  have HRA := hide hra
  have HRB := hide hrb
  have HQ := hide hq
  have HN1 := hide hn1
  have HN2 := hide hn2
  clear hva hvb hca hcb ha1 hbb1 hra hrb hA hB hq hn1 hn2
  go_enter Try.func96, Try.ntmps96
  go_wp2_with fail
  go_loopw [3, 11] (fun v i wr => ∃ k : Nat, k ≤ 2 ∧ i = .int .i64 k ∧ v = .int .i64 (catN n1 n2 k : Nat) ∧ Below w.heap.size w wr) (fun _ i _ => 2 - (intOf i).toNat)
  case atStart => exact ⟨0, Nat.zero_le _, rfl, rfl, Below.refl _ _⟩
  case round =>
    obtain ⟨k, hk, rfl, rfl, hbe⟩ := hrel
    have HB := hide hbe
    have HQk := hide (HQ.out.later hbe)
    clear hbe
    have hk3 : k = 0 ∨ k = 1 ∨ k = 2 := by omega
    rcases hk3 with rfl | rfl | rfl
    · rw [show catN n1 n2 0 = 0 from rfl]
      have k0 := HQk.out.cell 0 _ rfl
      have hcz : ¬ ((n1 : Int) < 0) := by omega
      go_wp2_with fail
      go_roundw
      case rel => exact ⟨1, by omega, by go_num, by simp [catN], HB.out⟩
      case measure => simp [intOf]
    · rw [show catN n1 n2 1 = n1 from rfl]
      have k0 := HQk.out.cell 1 _ rfl
      have hcz : ¬ ((n1 : Int) + (n2 : Int) < 0) := by omega
      go_wp2_with fail
      go_roundw
      case rel => exact ⟨2, by omega, by go_num, by simp [catN], HB.out⟩
      case measure => simp [intOf]
    · clear HQk
      obtain ⟨N, hN⟩ : ∃ N, n1 + n2 = N := ⟨_, rfl⟩
      have hcn : catN n1 n2 2 = N := by simp [catN, hN]
      rw [hcn]
      go_wp2_with fail
      refine (grow0_any N _ (by omega) (by omega)).mono ?_
      rintro e w1 ⟨gg, cc, rfl, hb1', hown⟩
      have HB2 := hide (HB.out.trans (hb1'.mono HB.out.size))
      have HS0 := hide HB.out.size
      have HSZ := hide hb1'.size
      have HO := hide hown
      obtain ⟨base, hbase⟩ : ∃ base, wr.heap.size = base := ⟨_, rfl⟩
      rw [hbase] at HO HS0 HSZ
      clear hb1' hown hbase HB
      go_wp2_with fail
      go_loopw [6, 27] (fun v i wr => ∃ k : Nat, k ≤ 2 ∧ i = .int .i64 k ∧ Below w.heap.size w wr ∧ wr.ownsRow base 37 1 v (catN n1 n2 k) (catV va vb k) ∧ base ≤ wr.heap.size) (fun _ i _ => 2 - (intOf i).toNat)
      case atStart => exact ⟨0, Nat.zero_le _, rfl, HB2.out, HO.out, HSZ.out⟩
      case round =>
        clear HB2 HO
        obtain ⟨k, hk, rfl, hbe, hown, hsz⟩ := hrel
        have HB := hide hbe
        have HO := hide hown
        have HQk := hide (HQ.out.later hbe)
        clear hbe hown
        have hk3 : k = 0 ∨ k = 1 ∨ k = 2 := by omega
        rcases hk3 with rfl | rfl | rfl
        · have k0 := HQk.out.cell 0 _ rfl
          rw [show catN n1 n2 0 = 0 from rfl, show catV va vb 0 = [] from rfl] at HO
          go_wp2_with (at_builtin; refine wpList_append_own _ rfl _ _ 22 rfl base 37 i0 (.slice none 0 0) 1 24 Try.underlying22 hi hz0 hz1 hz2 rfl (by decide) _ _ _ rfl HO.out ⟨b1, o1, none⟩ n1 c1 va rfl ?c1 ?c0 ?c2 ?c3 ?c4 ?c5 ?_)
          case c0 => intro j u hu; rw [addr_addC]; exact (HB.out.cell (p := ⟨b1, o1 + j, none⟩) hbw1).trans (HCA.out j u hu)
          case c1 => have h3 := HVA.out; have h4 := HN1.out; omega
          case c2 => exact HA1.out
          case c3 => unfold maxLen; omega
          case c4 => omega
          case c5 => exact hsz
          intro v' w3 hown' hgrow _
          have HO' := hide hown'
          have HG := hide hgrow
          clear hown' hgrow
          go_wp2_with fail
          go_roundw
          case rel => exact ⟨0 + 1, by omega, by go_num, HB.out.grown HG.out HB.out.size (fun g2 hg2 => Nat.le_trans HS0.out (HO.out.lt g2 hg2).1), by have h := HO'.out; simpa [catN, catV, hN] using h, Nat.le_trans hsz HG.out.size⟩
          case measure => simp [intOf]
        · have k0 := HQk.out.cell 1 _ rfl
          rw [show catN n1 n2 1 = n1 from rfl, show catV va vb 1 = va from rfl] at HO
          go_wp2_with (at_builtin; refine wpList_append_own _ rfl _ _ 22 rfl base 37 i0 (.slice none 0 0) 1 24 Try.underlying22 hi hz0 hz1 hz2 rfl (by decide) _ _ _ rfl HO.out ⟨b2, o2, none⟩ n2 c2 vb rfl ?c1 ?c0 ?c2 ?c3 ?c4 ?c5 ?_)
          case c0 => intro j u hu; rw [addr_addC]; exact (HB.out.cell (p := ⟨b2, o2 + j, none⟩) hbw2).trans (HCB.out j u hu)
          case c1 => have h3 := HVB.out; have h4 := HN2.out; omega
          case c2 => exact HB1.out
          case c3 => unfold maxLen; omega
          case c4 => omega
          case c5 => exact hsz
          intro v' w3 hown' hgrow _
          have HO' := hide hown'
          have HG := hide hgrow
          clear hown' hgrow
          go_wp2_with fail
          go_roundw
          case rel => exact ⟨1 + 1, by omega, by go_num, HB.out.grown HG.out HB.out.size (fun g2 hg2 => Nat.le_trans HS0.out (HO.out.lt g2 hg2).1), by have h := HO'.out; simpa [catN, catV, hN] using h, Nat.le_trans hsz HG.out.size⟩
          case measure => simp [intOf]
        · clear HQk
          rw [show catN n1 n2 2 = n1 + n2 from rfl, show catV va vb 2 = va ++ vb from rfl] at HO
          go_wp2_with fail
          go_ret
          have ho := HO.out
          rcases ho.2 with ⟨_, hz⟩ | ⟨g3, cap, cur, rfl, hg3, hh, _, _, _, h5⟩
          · omega
          · refine ⟨_, _, rfl, HB.out, fun _ => ⟨g3, 0, rfl, (Array.getElem?_eq_some_iff.1 hh).1, fun i hi => ?_⟩⟩
            have hl1 := HVA.out
            have hl2 := HVB.out
            have key : ∃ Ai ci, (va ++ vb)[i]? = some (.slice Ai ((f ++ g).getD i []).length ci) ∧ Rd wr Ai ((f ++ g).getD i []) := by
              by_cases e : i < f.length
              · obtain ⟨Ai, ci, e1, e2⟩ := HRA.out i e
                have e3 : (f ++ g).getD i [] = f.getD i [] := by simp [List.getElem?_append_left e]
                rw [e3]
                exact ⟨Ai, ci, by rw [List.getElem?_append_left (by omega)]; exact e1, e2.later HB.out⟩
              · have hi2 : i - f.length < g.length := by simp at hi; omega
                obtain ⟨Ai, ci, e1, e2⟩ := HRB.out (i - f.length) hi2
                have e3 : (f ++ g).getD i [] = g.getD (i - f.length) [] := by simp [List.getElem?_append_right (by omega : f.length ≤ i)]
                rw [e3]
                exact ⟨Ai, ci, by rw [List.getElem?_append_right (by omega), hl1]; exact e1, e2.later HB.out⟩
            obtain ⟨Ai, ci, e1, e2⟩ := key
            refine ⟨Ai, ci, ?_, e2⟩
            have hin : i < n1 + n2 := by simp at hi; have := HN1.out; have := HN2.out; omega
            rw [Nat.zero_add, cell_of_row wr g3 i cur 37 (0, 0) hh]
            have h6 := e1
            rw [← h5, List.getElem?_take, if_pos (by omega)] at h6
            simpa using h6
end Go.Proofs.Ytaejgmdeiemhcaa
namespace Go.Proofs.Ytaejgmdeiemhcaa
open Go Go.RowKit
set_option maxHeartbeats 2000000
theorem bth_add (g j : Nat) : (⟨g, 0, none⟩ : Addr).add j = ⟨g, j, none⟩ := by
  cases j with
  | zero => rfl
  | succ j => simp [Addr.add]
theorem LstV.base {ts t : TypeId} {B : Nat} {w : World} {v : Value} {rows : List (List Int)} {vals : List Value} (h : LstV ts t B w v rows vals) (h0 : 0 < rows.length) : B ≤ w.heap.size := by
  rcases h.own.2 with ⟨_, hz⟩ | ⟨g, _, _, _, hg, hh, _⟩
  · omega
  · have := (Array.getElem?_eq_some_iff.1 hh).1
    omega
set_option maxRecDepth 100000 in
theorem bothS_any (A : Option Addr) (n c : Nat) (f : List (List Int)) (B : Option Addr) (d : Nat) (s : List (List Int)) (w : World) (hz : ZArg 1048576 w A n f B n s) (hp : PMap f s) :
    Calls Try.prog 65 #[.agg #[.slice A n c, .slice B n d]] w fun e w' => ∃ A' c', e = .returned (.slice A' (n + n) c') ∧ Below w.heap.size w w' ∧ Rd2 w' A' (bothL f s) := by
  have hnb := hz.sz.nb
  have h12 := hz.small hp
  have h1 : 1 ≤ n := by have := hp.1.1; have := hz.sz.fl; omega
  have HZ := hide hz
  have HP := hide hp
  have HBc := hide ((Below.refl _ w).alloc (Nat.le_refl _) (Obj.cells #[Value.slice A n c, Value.slice B n d] 28))
  have HKc := hide (Blk.new w 28 [.slice A n c, .slice B n d])
  obtain ⟨i0, hi, hz0, hz1, hz2⟩ := info_parts o2Info2q
  clear hz hp
  go_enter Try.func65, Try.ntmps65
  go_upto_region 1 with fail
  refine wp_gen fun w0 hw0 => ?_
  have HB0 := hide (show Below w.heap.size w w0 by rw [hw0]; exact HBc.out)
  replace HKc := hide (show Blk w0 w.heap.size 28 [.slice A n c, .slice B n d] by rw [hw0]; exact HKc.out)
  clear hw0 HBc
  have HBc := HB0
  have k0 := HKc.out.cell 0 _ rfl
  have k1 := HKc.out.cell 1 _ rfl
  go_region_held3 (fun w' => w'.cell? ⟨w.heap.size, 0, none⟩ = some (.slice A n c) ∧ w'.cell? ⟨w.heap.size, 1, none⟩ = some (.slice B n d)) (first | exact ⟨k0, k1⟩ | go_keep) (first | (go_at_call 54; go_must (refine calls_gen fun wc hwc => ?_; (first | have hbx := drew_below hwc | have hbx := eq_below hwc); replace HBc := hide (HBc.out.trans (hbx.mono HBc.out.size)); replace HKc := hide (HKc.out.later hbx); clear hwc hbx; have ZK := hide (HKc.out.lt); refine (own2v_any _ n _ n f _ HZ.out.sz.fl h1 hnb h1 hnb (fun i hi => by rw [HP.out.1.rows i hi]; exact HZ.out.sz.fl) (HZ.out.later HBc.out).fst).mono ?_; rintro e wd ⟨v, vals, rfl, hbd, hl⟩; replace HBc := hide (HBc.out.trans (hbd.mono HBc.out.size)); replace HKc := hide (HKc.out.later hbd); clear hbd; have k0 := HKc.out.cell 0 _ rfl; have k1 := HKc.out.cell 1 _ rfl; have HL := hide hl; clear hl)) | (go_at_call 58; go_must (refine calls_gen fun wc hwc => ?_; (first | have hbx := drew_below hwc | have hbx := eq_below hwc); replace HBc := hide (HBc.out.trans (hbx.mono HBc.out.size)); replace HKc := hide (HKc.out.later hbx); replace HL := hide (HL.out.later hbx); clear hwc hbx; refine (l01Turn_any _ _ _ s _ HZ.out.sz.sl hnb (fun i hi => by rw [HP.out.2.1.rows i hi]; exact HZ.out.sz.sl) (HZ.out.later HBc.out).snd).mono ?_; rintro e wd ⟨A2, c2, rfl, hbd, hobj⟩; replace HBc := hide (HBc.out.trans (hbd.mono HBc.out.size)); replace HKc := hide (HKc.out.later hbd); replace HL := hide (HL.out.later hbd); clear hbd; have k0 := HKc.out.cell 0 _ rfl; have k1 := HKc.out.cell 1 _ rfl; obtain ⟨g2, vs, rfl, hgw, hvl, hvc, hv1, hvr⟩ := Obj2.look hobj (by rw [turnL_length, HZ.out.sz.sl]; omega); rw [turnL_length, HZ.out.sz.sl] at hvl; have HVC := hide hvc; have HV1 := hide hv1; have HVR := hide hvr; clear hobj hvc hv1 hvr)) | (refine step_append_lies _ (by rfl) _ _ _ (by rfl) _ 37 i0 _ 1 24 Try.underlying22 hi hz0 hz1 hz2 rfl (by omega) v n vals (by rfl) (by have h := HL.out.own; rwa [HZ.out.sz.fl] at h) ⟨g2, 0, none⟩ n c2 vs (by rfl) (by omega) (fun j u hu => by rw [bth_add]; exact HVC.out j u hu) HV1.out (by omega) (by unfold maxLen; omega) (by omega) (by have := HL.out.base (by have := HZ.out.sz.fl; omega); omega) _ rfl ?_; go_must (intro gg cap w3 hown' hgrow _ _; have HO3 := hide hown'; have HG := hide hgrow; have hbk := hgrow.block w.heap.size (HKc.out.lt) (fun e => by have h1 := (HL.out.own.lt _ e.symm).1; have h2 := ZK.out; omega); have k0 := (World.cell?_of_block (a := ⟨w.heap.size, 0, none⟩) hbk).trans k0; have k1 := (World.cell?_of_block (a := ⟨w.heap.size, 1, none⟩) hbk).trans k1; clear hbk hown' hgrow)))
  clear k0 k1
  go_wp2_with fail
  go_ret
  have hB3 : Below w.heap.size w w3 := by
    exact HBc.out.grown HG.out HBc.out.size (fun g hg => by have h2 := (HL.out.own.lt g hg).1; have h3 := ZK.out; omega)
  obtain ⟨A', c', he, hrd⟩ := LstV.cat (n := n + n) (tmp := .cells #[] 37) (by decide) HL.out (by rw [hvl, turnL_length, HZ.out.sz.sl]) HVR.out (by rw [List.length_append, turnL_length, HZ.out.sz.fl, HZ.out.sz.sl]) (by omega) HO3.out (.inl HG.out)
  injection he with e1 e2 e3
  subst e1
  exact ⟨_, _, rfl, hB3, hrd⟩
end Go.Proofs.Ytaejgmdeiemhcaa
