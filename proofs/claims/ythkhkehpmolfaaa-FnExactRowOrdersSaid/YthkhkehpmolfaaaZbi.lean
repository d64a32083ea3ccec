import Derived.Test.YthkhkehpmolfaaaZbg
import Derived.Test.YthkhkehpmolfaaaZan
namespace Go.Proofs.Ythkhkehpmolfaaa
open Go Go.RowKit
open Classical
set_option maxHeartbeats 2000000

theorem gens_one {p : List Int} {n : Nat} (hn : p.length = n) (hp : Prm p) : Gens [p] n := fun r hr => by
  have h0 : r = 0 := by simp at hr; omega
  subst h0
  exact ⟨hn, hp⟩
theorem stp_one (p : List Int) (y : Nat) : stp [p] y (p.getD y 0).toNat := ⟨0, by simp, rfl⟩
theorem stp_of {p : List Int} {y z : Nat} (h : stp [p] y z) : (p.getD y 0).toNat = z := by
  obtain ⟨r, hr, e⟩ := h
  have h0 : r = 0 := by simp at hr; omega
  subst h0
  exact e

/-- On the way along a cycle: V are behind, y is next. -/
structure CInv (p : List Int) (n s : Nat) (V : List Nat) (y : Nat) : Prop where
  nd : V.Nodup
  lt : ∀ u ∈ V, u < n
  rch : ∀ u ∈ V, Rch [p] s u
  yn : y < n
  yr : Rch [p] s y
  nx : ∀ u ∈ V, (p.getD u 0).toNat ∈ V ∨ (p.getD u 0).toNat = y
  e0 : V = [] → y = s
  e1 : V ≠ [] → s ∈ V
  neg : ∀ u ∈ V, (lab [p] s).1 u < 0
theorem CInv.start (p : List Int) (n s : Nat) (hs : s < n) : CInv p n s [] s := ⟨by simp, by simp, by simp, hs, .start, by simp, fun _ => rfl, fun h => absurd rfl h, by simp⟩
theorem CInv.most {p : List Int} {n s : Nat} {V : List Nat} {y : Nat} (h : CInv p n s V y) : V.length ≤ n := natnd_le V n h.lt h.nd
theorem CInv.push {p : List Int} {n s : Nat} {V : List Nat} {y : Nat} (h : CInv p n s V y) (hg : Gens [p] n) (hno : y ∉ V) (hneg : (lab [p] s).1 y < 0) : CInv p n s (V ++ [y]) (p.getD y 0).toNat := by
  have hz := hg.at (r := 0) (v := y) (by simp) h.yn
  refine ⟨?_, fun u hu => ?_, fun u hu => ?_, ?_, .step h.yr (stp_one p y), fun u hu => ?_, fun e => absurd e (by simp), fun _ => ?_, fun u hu => ?_⟩
  · rw [List.nodup_append]
    exact ⟨h.nd, by simp, fun a ha b hb e => hno (by simp at hb; subst hb; subst e; exact ha)⟩
  · rcases List.mem_append.1 hu with hu | hu
    · exact h.lt u hu
    · simp at hu; subst hu; exact h.yn
  · rcases List.mem_append.1 hu with hu | hu
    · exact h.rch u hu
    · simp at hu; subst hu; exact h.yr
  · have e : ([p].getD 0 []) = p := rfl
    rw [e] at hz
    omega
  · rcases List.mem_append.1 hu with hu | hu
    · rcases h.nx u hu with e | e
      · exact .inl (List.mem_append_left _ e)
      · exact .inl (by rw [e]; simp)
    · simp at hu; subst hu; exact .inr rfl
  · by_cases hV : V = []
    · rw [h.e0 hV]; simp
    · exact List.mem_append_left _ (h.e1 hV)
  · rcases List.mem_append.1 hu with hu | hu
    · exact h.neg u hu
    · simp at hu; subst hu; exact hneg
theorem CInv.done {p : List Int} {n s : Nat} {V : List Nat} {y : Nat} (h : CInv p n s V y) (hy : y ∈ V) (u : Nat) : u ∈ V ↔ Rch [p] s u := by
  refine ⟨h.rch u, fun hr => ?_⟩
  induction hr with
  | start => exact h.e1 (fun e => by rw [e] at hy; simp at hy)
  | @step a b _ hs ih =>
    have e := stp_of hs
    rcases h.nx a ih with h1 | h1
    · rw [← e]; exact h1
    · rw [← e, h1]; exact hy

noncomputable def seenV (p : List Int) (s : Nat) (V : List Nat) : Nat → Value := fun i => .bool (decide (0 ≤ (lab [p] s).1 i ∨ i ∈ V))
theorem seenV_push (p : List Int) (s : Nat) (V : List Nat) (y i : Nat) : (if i = y then Value.bool true else seenV p s V i) = seenV p s (V ++ [y]) i := by
  unfold seenV
  by_cases e : i = y
  · subst e; simp
  · simp [e]

set_option maxRecDepth 20000 in
theorem cycles_any (A : Option Addr) (n c : Nat) (p : List Int) (w : World) (hn : p.length = n) (hp : Prm p) (hr : Rd w A p) :
    Calls Try.prog 109 #[.slice A n c] w fun e w' => ∃ A' c' ys, e = .returned (.slice A' (cyc [p] n n).length c') ∧ Below w.heap.size w w' ∧ Res 2 w.heap.size w' A' ys ∧ ys.Perm (cyc [p] n n) ∧ Sorted ys := by
  have h1n : 1 ≤ n := by have := hp.1; omega
  have h12 : n ≤ 12 := by have := hp.2.1; omega
  have HN := hide hn
  have HG := hide (gens_one hn hp)
  have HIN := hide hp.2.2.1
  clear hn hp
  obtain ⟨i0, hi, hz0, hz1, hz2⟩ := info_parts liInfo
  go_enter Try.func109, Try.ntmps109
  go_wp2_with fail
  go_loopw [4, 11] (fun v i wr => ∃ s : Nat, s ≤ n ∧ i = .int .i64 s ∧ Below w.heap.size w wr ∧ wr.rowIs w.heap.size 105 12 (seenV p s []) ∧ w.heap.size + 1 ≤ wr.heap.size ∧ wr.ownsRow (w.heap.size + 1) 2 1 v (cyc [p] n s).length (ints (cyc [p] n s))) (fun _ i _ => n - (intOf i).toNat)
  case atStart =>
    refine ⟨0, Nat.zero_le _, rfl, ((Below.refl _ _).alloc (Nat.le_refl _) _).alloc (by simp) _, ?_, by simp, ?_⟩
    · refine ⟨_, (Below.heap_alloc _ _ _ (by simp)).trans (heap_alloc_new _ _), rfl, fun i hi => ?_⟩
      simp only [seenV, lab]
      match i, hi with
      | 0, _ | 1, _ | 2, _ | 3, _ | 4, _ | 5, _ | 6, _ | 7, _ | 8, _ | 9, _ | 10, _ | 11, _ => simp
    · have e : cyc [p] n 0 = [] := by simp [cyc, lab]
      rw [e]
      refine ⟨by simp [ints], .inr ⟨w.heap.size + 1, 0, #[], ?_, Nat.le_refl _, ?_, Nat.le_refl _, by unfold maxLen; omega, by simp, by simp [ints]⟩⟩
      · simp
      · simpa using heap_alloc_new (w.alloc _) (Obj.cells #[] 2)
  case round =>
    obtain ⟨s, hs, rfl, hbe, hrow, hsz, hown⟩ := hrel
    have HB := hide hbe
    have HROW := hide hrow
    have HO := hide hown
    clear hbe hrow hown
    by_cases hlt : s < n
    · have hltz : (s : Int) < n := by omega
      go_wp2_with fail
      obtain ⟨wo, rfl⟩ : ∃ wo : World, wo = wr := ⟨_, rfl⟩
      go_loopw [6, 7] (fun l x wi => ∃ (V : List Nat) (y : Nat), l = .int .i64 V.length ∧ x = .int .i64 y ∧ Below w.heap.size w wi ∧ wi.rowIs w.heap.size 105 12 (seenV p s V) ∧ w.heap.size + 1 ≤ wi.heap.size ∧ wi.ownsRow (w.heap.size + 1) 2 1 u4 (cyc [p] n s).length (ints (cyc [p] n s)) ∧ CInv p n s V y) (fun l _ _ => n - (intOf l).toNat)
      case atStart => exact ⟨[], s, by first | rfl | go_num, rfl, HB.out, HROW.out, hsz, HO.out, CInv.start p n s hlt⟩
      case round =>
        clear HB HROW HO hsz
        obtain ⟨V, y, rfl, rfl, hbe, hrow, hsz, hown, hinv⟩ := hrel
        have HB := hide hbe
        have HROW := hide hrow
        have HO := hide hown
        have HI := hide hinv
        have hyn := hinv.yn
        have hmost := hinv.most
        have hy12 : (y : Int) < 12 := by omega
        have hynz : (y : Int) < n := by omega
        have hs1 := HROW.out.cell (i := y) (by omega)
        have hf1 := HROW.out.frozen y
        obtain ⟨b, o, rfl, hbw, hc⟩ := hr (by have := HN.out; omega)
        have hcy0 := hc y (by have := HN.out; omega)
        have hcy : wr.cell? ⟨b, o + y, none⟩ = some (.int .i64 (p.getD y 0)) := (HB.out.cell (p := ⟨b, o + y, none⟩) hbw).trans hcy0
        have hcys : ∀ u, (wr.setCell ⟨w.heap.size, y, none⟩ u).cell? ⟨b, o + y, none⟩ = some (.int .i64 (p.getD y 0)) := fun u => ((HB.out.setCell (p := ⟨w.heap.size, y, none⟩) (Nat.le_refl _) u).cell (p := ⟨b, o + y, none⟩) hbw).trans hcy0
        have hz := HG.out.at (r := 0) (v := y) (by simp) hyn
        have ez : ([p].getD 0 []) = p := rfl
        rw [ez] at hz
        obtain ⟨z, hz2⟩ := Int.eq_ofNat_of_zero_le hz.1
        rw [hz2] at hcy hcys
        have HZ : Hid ((p.getD y 0).toNat = z) := hide (by rw [hz2]; simp)
        clear hbe hrow hown hinv hc hcy0 hz ez hz2
        by_cases hsn : 0 ≤ (lab [p] s).1 y ∨ y ∈ V
        · have hs' : wr.cell? ⟨w.heap.size, y, none⟩ = some (.bool true) := by rw [hs1]; unfold seenV; rw [decide_eq_true hsn]
          have HSN := hide hsn
          clear hs1 hsn
          by_cases hls : 0 ≤ (lab [p] s).1 s
          · have hV : V = [] := by
              cases hV : V with
              | nil => rfl
              | cons a r =>
                have := HI.out.neg s (HI.out.e1 (by rw [hV]; simp))
                omega
            subst hV
            have hcs := cyc_stay [p] n s hls
            have hlb : lab [p] (s + 1) = lab [p] s := by rw [lab, if_pos hls]
            have HCS := hide hcs
            have HLB := hide hlb
            clear hcs hlb
            go_wp2_with fail
            go_roundw
            case rel => exact ⟨s + 1, by omega, by go_num, HB.out, by unfold seenV; rw [HLB.out]; exact HROW.out, hsz, by rw [HCS.out]; exact HO.out⟩
            case measure => simp [intOf]; omega
          · have hyV : y ∈ V := by
              rcases HSN.out with h | h
              · have := lab_free HG.out hlt (by omega) y HI.out.yr; omega
              · exact h
            have hnx := cyc_next [p] n s HG.out hlt (by omega) V HI.out.nd (fun u => HI.out.done hyV u)
            have hlb : lab [p] (s + 1) = (fun y => if Rch [p] s y then ((lab [p] s).2 : Int) else (lab [p] s).1 y, (lab [p] s).2 + 1) := by rw [lab, if_neg hls]
            have hse : seenV p (s + 1) [] = seenV p s V := by
              funext i
              unfold seenV
              rw [hlb]
              congr 1
              have hd := HI.out.done hyV i
              by_cases hr' : Rch [p] s i
              · simp [hr', hd.2 hr']
              · have : i ∉ V := fun e => hr' (hd.1 e)
                simp [hr', this]
            have hVp : 0 < V.length := List.length_pos_of_mem hyV
            obtain ⟨L, hL⟩ : ∃ L, V.length = L := ⟨_, rfl⟩
            have hLp : (0 : Int) < (L : Int) := by omega
            have hlenc : (cyc [p] n s).length ≤ 12 := by
              unfold cyc
              have := lab_le [p] s
              simp
              omega
            obtain ⟨K, hK⟩ : ∃ K, (cyc [p] n s).length = K := ⟨_, rfl⟩
            have HK := hide hK
            have HL := hide hL
            have HNX := hide hnx
            have HSE := hide hse
            have hown' := HO.out
            rw [hK] at hown' hlenc
            have HO2 := hide hown'
            rw [hL] at hmost ⊢
            clear hnx hlb hse hVp hK hL hown' hls
            go_wp2_with (at_builtin; refine wpList_append_own _ rfl _ _ 31 rfl (w.heap.size + 1) 2 i0 (.int .i64 0) 1 8 Try.underlying31 hi hz0 hz1 hz2 rfl (by decide) _ _ _ rfl (HO2.out.alloc _) ⟨wr.heap.size, 0, none⟩ 1 1 [.int .i64 (L : Int)] rfl rfl ?c1 ?c2 ?c3 ?c4 ?c5 ?_)
            case c1 => exact li_new
            case c2 => intro u hu; simp at hu; subst hu; rfl
            case c3 => unfold maxLen; omega
            case c4 => omega
            case c5 => simp; omega
            intro v' w7 hown' hgrow _
            have HO' := hide hown'
            have HGR := hide hgrow
            clear hown' hgrow
            go_wp2_with fail
            go_roundw
            case rel =>
              have hB7 : Below w.heap.size w w7 := (HB.out.alloc (by omega) _).grown HGR.out (by simp; omega) (fun g' hg' => by have := ((HO2.out.alloc (.cells #[.int .i64 (L : Int)] 2)).lt g' hg').1; omega)
              have e : ints (cyc [p] n s) ++ [.int .i64 (L : Int)] = ints (cyc [p] n (s + 1)) := by rw [HNX.out, HL.out]; simp [ints]
              refine ⟨s + 1, by omega, by go_num, hB7, ?_, by have := HGR.out.size; simp at this; omega, ?_⟩
              · rw [HSE.out]
                obtain ⟨cur, h1, h2, h3⟩ := HROW.out
                refine ⟨cur, ?_, h2, h3⟩
                have hlt7 : w.heap.size < wr.heap.size := by omega
                refine (HGR.out.block w.heap.size (by simp; omega) ?_).trans ((Below.heap_alloc _ _ _ hlt7).trans h1)
                intro e'
                have := ((HO2.out.alloc (.cells #[.int .i64 (L : Int)] 2)).lt _ e'.symm).1
                omega
              · have h := HO'.out
                rw [e] at h
                rw [HNX.out, List.length_append, HK.out]
                rw [HNX.out] at h
                exact h
            case measure => simp [intOf]; omega
        · have hs' : wr.cell? ⟨w.heap.size, y, none⟩ = some (.bool false) := by rw [hs1]; unfold seenV; rw [decide_eq_false hsn]
          have HSN := hide hsn
          have hyV : y ∉ V := fun h => hsn (.inr h)
          have hyl : (lab [p] s).1 y < 0 := by
            rcases Int.lt_or_le ((lab [p] s).1 y) 0 with h | h
            · exact h
            · exact absurd (.inl h) hsn
          have hpush := HI.out.push HG.out hyV hyl
          rw [HZ.out] at hpush
          have hm2 := hpush.most
          have HPU := hide hpush
          rw [List.length_append, List.length_singleton] at hm2
          obtain ⟨L, hL⟩ : ∃ L, V.length = L := ⟨_, rfl⟩
          have HL := hide hL
          rw [hL] at hm2 hmost ⊢
          clear hs1 hsn hpush hyV hyl hL
          go_wp2_with fail
          go_roundw
          case rel =>
            refine ⟨V ++ [y], z, by rw [List.length_append, HL.out]; go_num, by first | rfl | go_num, HB.out.setCell (Nat.le_refl _) _, (HROW.out.set y _).congr (fun i _ => seenV_push p s V y i), by simpa [World.setCell] using hsz, own_setFar HO.out (by omega), HPU.out⟩
          case measure => simp [intOf]; omega
    · have hsn : s = n := by omega
      subst hsn
      have hok := lab_ok [p] s s HG.out (Nat.le_refl _)
      have hpos : 0 < (cyc [p] s s).length := by
        unfold cyc
        have h1 := hok.all 0 (by omega)
        have h2 := hok.lt 0
        simp
        omega
      have hmax : (cyc [p] s s).length ≤ 12 := by
        unfold cyc
        have := lab_le [p] s
        simp
        omega
      obtain ⟨A5, c5, hv, hres⟩ := own_shape HO.out
      subst hv
      obtain ⟨K, hK⟩ : ∃ K, (cyc [p] s s).length = K := ⟨_, rfl⟩
      have HK := hide hK
      rw [hK] at hpos hmax ⊢
      rcases hres with ⟨_, e⟩ | ⟨g, rfl, hg, how⟩
      · rw [e] at hK; simp at hK; omega
      · have HW := hide how
        clear hK how hok hi
        go_wp2_with fail
        refine (sort_any g K c5 (cyc [p] s s) _ HK.out hmax HW.out).mono ?_
        rintro e w2 ⟨rfl, ho, ys, hperm, hsorted, how2⟩
        have HO2 := hide ho
        have HP2 := hide hperm
        have HS2 := hide hsorted
        have HW2 := hide how2
        clear ho hperm hsorted how2
        go_wp2_with fail
        go_ret
        exact ⟨_, _, ys, by rw [HK.out]; rfl, HB.out.trans (Only.below HO2.out (B := w.heap.size) (fun a ha => by cases ha; show w.heap.size ≤ g; omega) (by omega)), .inr ⟨g, rfl, by omega, HW2.out⟩, HP2.out, HS2.out⟩
end Go.Proofs.Ythkhkehpmolfaaa
