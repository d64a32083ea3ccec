import Derived.Test.YthnkhljgealjdaaDo
import Derived.Test.YthnkhljgealjdaaDn
import Derived.Test.YthnkhljgealjdaaDl
import Derived.Test.YthnkhljgealjdaaDm
import Derived.Test.YthnkhljgealjdaaDc
import Derived.Test.YthnkhljgealjdaaDd
import Derived.Test.YthnkhljgealjdaaDi
import Derived.Laws.MakeOwn
namespace Go.Proofs.Ythnkhljgealjdaa
open Go Go.RowKit
open Classical
set_option maxHeartbeats 4000000
theorem cls0 (h1 h2 : Nat → Nat → Int) : Cls h1 h2 [] [[]] := ⟨by simp, fun y => ⟨fun h => by
  have : y = [] := by simpa using h
  subst this; exact .refl, fun h => by
  have := h.len
  have : y = [] := by simpa using this
  subst this; simp⟩⟩
theorem classC_any (A : Option Addr) (n c : Nat) (f : List (List Int)) (B : Option Addr) (d : Nat) (s : List (List Int)) (C : Option Addr) (m e : Nat) (x : List Int) (most : Nat) (w : World) (hz : ZArg 1048576 w A n f B n s) (hs : SolF f s) (ht : Tup n x) (hm : x.length = m) (he : m = 0 → e = 0) (hr : Rd w C x) (hl1 : 1 ≤ most) (hl : most ≤ 5000) :
    Calls Try.prog 27 #[.agg #[.slice A n c, .slice B n d], .slice C m e, .int .i64 most] w fun e w' => (∃ L v vals, Cls (leH f) (leH s) x L ∧ Asc L ∧ L.length ≤ most ∧ e = .returned (.tuple #[v, .bool true]) ∧ Below w.heap.size w w' ∧ LstV 25 2 w.heap.size w' v L vals ∧ CapsV vals) ∨ (¬ FewT (leH f) (leH s) x most ∧ e = .returned (.tuple #[.slice none 0 0, .bool false]) ∧ Below w.heap.size w w') := by
  by_cases h0 : m = 0
  · subst h0
    obtain rfl := he rfl
    have hx : x = [] := List.eq_nil_of_length_eq_zero hm
    subst hx
    refine (class0c_any A n c f B d s C most w hz hs hl1 hl).mono ?_
    rintro e w2 ⟨v, vals, h1, h2, h3, h4⟩
    exact .inl ⟨[[]], v, vals, cls0 _ _, Asc.one _, by simpa using hl1, h1, h2, h3, h4⟩
  · exact class1c_any A n c f B d s C m e x most w hz hs ht hm (by omega) hr hl1 hl
theorem classS_any (A : Option Addr) (n c : Nat) (f : List (List Int)) (B : Option Addr) (d : Nat) (s : List (List Int)) (C : Option Addr) (m e : Nat) (x : List Int) (most : Nat) (w : World) (hz : ZArg 1048576 w A n f B n s) (hs : SolF f s) (ht : Tup n x) (hm : x.length = m) (he : m = 0 → e = 0) (hr : Rd w C x) (hl1 : 1 ≤ most) (hl : most ≤ 5000) :
    Calls Try.prog 27 #[.agg #[.slice A n c, .slice B n d], .slice C m e, .int .i64 most] w fun e w' => (∃ L v vals, Cls (leH f) (leH s) x L ∧ Asc L ∧ L.length ≤ most ∧ e = .returned (.tuple #[v, .bool true]) ∧ Below w.heap.size w w' ∧ LstV 25 2 w.heap.size w' v L vals) ∨ (¬ FewT (leH f) (leH s) x most ∧ e = .returned (.tuple #[.slice none 0 0, .bool false]) ∧ Below w.heap.size w w') := by
  refine (classC_any A n c f B d s C m e x most w hz hs ht hm he hr hl1 hl).mono ?_
  rintro e w2 (⟨L, v, vals, h1, h2, h3, h4, h5, h6, _⟩ | h)
  · exact .inl ⟨L, v, vals, h1, h2, h3, h4, h5, h6⟩
  · exact .inr h
set_option maxRecDepth 100000 in
theorem cowS_any (A : Option Addr) (n c : Nat) (f : List (List Int)) (B : Option Addr) (k d : Nat) (s : List (List Int)) (C : Option Addr) (m e : Nat) (xs : List Int) (zs : List (List Int)) (code : Int) (w : World) (hz : ZArg 1048576 w A n f B k s) (hm : xs.length = m) (hb : m ≤ 1048576) (he : m = 0 → e = 0) (hr : Rd w C xs) (hres : CowR f s xs zs code) :
    Calls Try.prog 17 #[.agg #[.slice A n c, .slice B k d], .slice C m e] w fun e w' => ∃ v vals, e = .returned (.tuple #[v, .int .i64 code]) ∧ Below w.heap.size w w' ∧ LstV 25 2 w.heap.size w' v zs vals := by
  have HZ := hide hz
  have HM := hide hm
  have HR := hide hr
  have HE := hide he
  have HB0 := hide ((Below.refl _ w).alloc (Nat.le_refl _) (Obj.cells #[Value.slice A n c, Value.slice B k d] 29))
  have HK0 := hide (Blk.new w 29 [.slice A n c, .slice B k d])
  obtain ⟨wc, hwc⟩ : ∃ wc, WdC f s [xs] wc := WdC.ex f s [xs]
  have HWC := hide hwc
  have HWC2 : Hid (WdC f s [xs, xs] wc) := hide (hwc.congr (by rw [wrds1, wrds2]; exact ⟨fun h => ⟨h, h⟩, fun h => h.1⟩))
  have HRES := hide hres
  have d0 : ¬ wc = 0 → (wc != 0) = true := fun h => by simpa using h
  clear hz hm hr he hwc hres
  go_enter Try.func17, Try.ntmps17
  have k0 := HK0.out.cell 0 _ rfl
  have k1 := HK0.out.cell 1 _ rfl
  go_wp2_with fail
  clear k0 k1
  refine (codeS_any A B C C n c k d m _ m _ f s xs xs wc _ (HZ.out.later HB0.out) HM.out hb (HR.out.later HB0.out) HM.out hb (HR.out.later HB0.out) HWC2.out).mono ?_
  rintro e w2 ⟨rfl, hb2⟩
  have HB2 := hide (HB0.out.trans (hb2.mono HB0.out.size))
  have HK2 := hide (HK0.out.later hb2)
  clear hb2
  by_cases hc0 : wc = 0
  · subst hc0
    obtain ⟨hs, hw⟩ := HWC.out.zero rfl
    obtain rfl := (HZ.out.same hs.1).symm
    have hn := HZ.out.sz.fl
    have hw1 := wrds1.1 hw
    rw [hn] at hw1
    have HW := hide hw1
    have HS := hide hs
    have HOR : Hid (OrbR f s xs 1000 zs code) := hide (by
      rcases HRES.out with ⟨_, h⟩ | ⟨h1, h2, _⟩
      · exact h
      · exact absurd (h1.uniq HWC.out) h2)
    clear hs hw hw1 hn d0
    have k0 := HK2.out.cell 0 _ rfl
    have k1 := HK2.out.cell 1 _ rfl
    go_wp2_with fail
    refine (classS_any A n c f B d s C m _ xs 1000 _ (HZ.out.later HB2.out) HS.out HW.out.tup HM.out HE.out (HR.out.later HB2.out) (by omega) (by omega)).mono ?_
    have hs2 := HB2.out.size
    rintro e w3 (⟨L, v, vals, hcl, ha, hll, rfl, hb3, hl3⟩ | ⟨hf, rfl, hb3⟩)
    · have HB3 := hide (HB2.out.trans (hb3.mono hs2))
      have hz1 : L = zs ∧ code = 0 := by
        rcases HOR.out with ⟨h1, h2, _, h3⟩ | ⟨h1, _⟩
        · exact ⟨hcl.ascEq h1 ha h2, h3⟩
        · exact absurd ⟨L, hcl, hll⟩ h1
      obtain ⟨rfl, rfl⟩ := hz1
      have HL3 := hide (hl3.monoB hs2)
      clear hb3 hcl ha hll hl3 k0 k1
      go_wp2_with fail
      go_ret2
      exact ⟨_, _, rfl, HB3.out, HL3.out⟩
    · have hz1 : zs = [] ∧ code = 3 := by
        rcases HOR.out with ⟨h1, _, h2, _⟩ | ⟨_, h1⟩
        · exact absurd ⟨zs, h1, h2⟩ hf
        · exact h1
      obtain ⟨rfl, rfl⟩ := hz1
      have HB3 := hide (HB2.out.trans (hb3.mono hs2))
      clear hb3 hf k0 k1
      go_wp2_with fail
      go_ret2
      exact ⟨_, [], rfl, HB3.out, LstV.nil _ _ _ _⟩
  · have hz1 : zs = [] ∧ code = wc := by
      rcases HRES.out with ⟨h1, _⟩ | ⟨h1, _, h3⟩
      · exact absurd (HWC.out.uniq h1) hc0
      · exact ⟨h3, h1.uniq HWC.out⟩
    obtain ⟨rfl, rfl⟩ := hz1
    have hcb := d0 hc0
    clear d0
    go_wp2_with fail
    go_ret2
    exact ⟨_, [], rfl, HB2.out, LstV.nil _ _ _ _⟩
theorem cowS (A : Option Addr) (n c : Nat) (f : List (List Int)) (B : Option Addr) (k d : Nat) (s : List (List Int)) (C : Option Addr) (m : Nat) (xs : List Int) (zs : List (List Int)) (code : Int) (kz : Nat) (w : World) (hz : ZArg 1048576 w A n f B k s) (hm : xs.length = m) (hb : m ≤ 1048576) (hr : Rd w C xs) (hres : CowR f s xs zs code) (hkz : zs.length = kz) :
    Calls Try.prog 17 #[.agg #[.slice A n c, .slice B k d], .slice C m m] w (TPost 25 2 kz zs code w) := by
  refine (cowS_any A n c f B k d s C m m xs zs code w hz hm hb (fun h => h) hr hres).mono ?_
  rintro e w2 ⟨v, vals, rfl, hb2, hl⟩
  obtain ⟨A', c', hv, hobj⟩ := hl.shape
  rw [hkz] at hv
  subst hv
  exact ⟨A', c', rfl, hb2, hobj⟩
end Go.Proofs.Ythnkhljgealjdaa
namespace Go.Proofs.Ythnkhljgealjdaa
open Go Go.RowKit
set_option maxHeartbeats 4000000
section
variable {ts t : TypeId} {B : Nat} {w0 w w' : World}
theorem LstV.blk_lt {v : Value} {rows : List (List Int)} {vals : List Value} (h : LstV ts t B w v rows vals) {i : Nat} {u : Value} (hu : vals[i]? = some u) {g : Nat} (hg : u.ownBlock = some g) : B ≤ g ∧ g < w.heap.size := by
  have hi : i < rows.length := by have := ownsRow_len h.own; have := (List.getElem?_eq_some_iff.1 hu).1; omega
  obtain ⟨A, c, h1, h2⟩ := h.row i hi
  rw [hu] at h1
  injection h1 with h1
  subst h1
  rcases h2 with ⟨rfl, _⟩ | ⟨g2, rfl, e2, e3, _⟩
  · simp [Value.ownBlock] at hg
  · have e : g2 = g := by simpa [Value.ownBlock] using hg
    omega
theorem LstV.oneC {v : Value} {rows : List (List Int)} {vals : List Value} (h : LstV ts t B w v rows vals) : ∀ u, u ∈ vals → u.oneCell' = true := fun u hu => by
  obtain ⟨i, hi, hu2⟩ := List.getElem_of_mem hu
  have hil : i < rows.length := by have := ownsRow_len h.own; omega
  obtain ⟨A, c, h1, _⟩ := h.row i hil
  have h3 : vals[i]? = some u := by rw [List.getElem?_eq_getElem hi, hu2]
  rw [h3] at h1; injection h1 with h1; subst h1; rfl
/-- A new row is put into a list at a place. -/
theorem LstV.ins {A : Option Addr} {c k g g' m n cap cap' : Nat} {l : List (List Int)} {vals : List Value} {p : List Int} (hne : ts ≠ t) (hB : B ≤ w0.heap.size) (h : LstV ts t B w0 (.slice (some ⟨g, 0, none⟩) m cap) l vals) (hb : Below w0.heap.size w0 w) (hA : Obj1 t w0.heap.size w.heap.size w A p) (hc : Chg g w w') (hk : k ≤ l.length) (hn : n = l.length + 1)
    (hown : w'.ownsRow B ts 1 (.slice (some ⟨g', 0, none⟩) n cap') n (vals.take k ++ .slice A p.length c :: vals.drop k)) : LstV ts t B w' (.slice (some ⟨g', 0, none⟩) n cap') (insL l k p) (vals.take k ++ .slice A p.length c :: vals.drop k) := by
  have h9 := h.later hb
  have hkt : KeepT t w w' := hc.keepT hne rfl h9.own
  have hlen := ownsRow_len h.own
  have hrv : RowsV t B w l vals := ⟨hlen, h9.row⟩
  have hins : RowsV t B w' (insL l k p) (vals.take k ++ .slice A p.length c :: vals.drop k) := (hrv.kept hkt hc.size).ins hk ((hkt.obj (hA.mono hB (Nat.le_refl _))).mono (Nat.le_refl _) hc.size)
  have hnew : ∀ g0, (Value.slice A p.length c).ownBlock = some g0 → w0.heap.size ≤ g0 := fun g0 hg0 => by
    rcases hA with ⟨rfl, _⟩ | ⟨g2, rfl, e2, _⟩
    · simp [Value.ownBlock] at hg0
    · have e : g2 = g0 := by simpa [Value.ownBlock] using hg0
      omega
  refine ⟨by rw [insL_length, ← hn]; exact hown, hins.2, fun i j u u' g0 hij hu hu' hg0 hg1 => ?_⟩
  rw [ins_at _ _ _ (by rw [hlen]; exact hk)] at hu hu'
  by_cases h1 : j < k
  · rw [if_pos h1] at hu'
    rw [if_pos (by omega)] at hu
    exact h.ne i j u u' g0 hij hu hu' hg0 hg1
  · rw [if_neg h1] at hu'
    by_cases h2 : j = k
    · rw [if_pos h2] at hu'
      rw [if_pos (by omega)] at hu
      injection hu' with hu'
      subst hu'
      have a1 := hnew g0 hg1
      have a2 := (h.blk_lt hu hg0).2
      omega
    · rw [if_neg h2] at hu'
      by_cases h3 : i < k
      · rw [if_pos h3] at hu
        exact h.ne i (j - 1) u u' g0 (by omega) hu hu' hg0 hg1
      · rw [if_neg h3] at hu
        by_cases h4 : i = k
        · rw [if_pos h4] at hu
          injection hu with hu
          subst hu
          have a1 := hnew g0 hg0
          have a2 := (h.blk_lt hu' hg1).2
          omega
        · rw [if_neg h4] at hu
          exact h.ne (i - 1) (j - 1) u u' g0 (by omega) hu hu' hg0 hg1
/-- A list that was made behind it is appended to a list. -/
theorem LstV.concat {v u v' : Value} {r1 r2 : List (List Int)} {v1 v2 : List Value} (hne : ts ≠ t) (hB : B ≤ w0.heap.size) (h1 : LstV ts t B w0 v r1 v1) (hb : Below w0.heap.size w0 w) (h2 : LstV ts t w0.heap.size w u r2 v2) (hown : w'.ownsRow B ts 1 v' (r1.length + r2.length) (v1 ++ v2)) (hg : w.grownBy w' v.ownBlock) : LstV ts t B w' v' (r1 ++ r2) (v1 ++ v2) := by
  have h9 := h1.later hb
  have hkt : KeepT t w w' := KeepT.of_grown hne h9.own hg
  have hl1 := ownsRow_len h1.own
  have hl2 := ownsRow_len h2.own
  refine ⟨by rw [List.length_append]; exact hown, fun i hi => ?_, fun i j a b g0 hij ha hb' hg0 hg1 => ?_⟩
  · by_cases e : i < r1.length
    · obtain ⟨A, c, k1, k2⟩ := h9.row i e
      have e1 : (r1 ++ r2).getD i [] = r1.getD i [] := by simp only [List.getD_eq_getElem?_getD]; rw [List.getElem?_append_left e]
      rw [e1]
      exact ⟨A, c, by rw [List.getElem?_append_left (by omega)]; exact k1, (hkt.obj k2).mono (Nat.le_refl _) hg.size⟩
    · have hi2 : i - r1.length < r2.length := by simp at hi; omega
      obtain ⟨A, c, k1, k2⟩ := h2.row (i - r1.length) hi2
      have e1 : (r1 ++ r2).getD i [] = r2.getD (i - r1.length) [] := by simp only [List.getD_eq_getElem?_getD]; rw [List.getElem?_append_right (by omega)]
      rw [e1]
      exact ⟨A, c, by rw [List.getElem?_append_right (by omega), hl1]; exact k1, ((hkt.obj k2).mono (Nat.le_refl _) hg.size).mono hB (Nat.le_refl _)⟩
  · by_cases ej : j < v1.length
    · rw [List.getElem?_append_left ej] at hb'
      rw [List.getElem?_append_left (by omega)] at ha
      exact h1.ne i j a b g0 hij ha hb' hg0 hg1
    · rw [List.getElem?_append_right (by omega)] at hb'
      by_cases ei : i < v1.length
      · rw [List.getElem?_append_left ei] at ha
        have a1 := (h1.blk_lt ha hg0).2
        have a2 := (h2.blk_lt hb' hg1).1
        omega
      · rw [List.getElem?_append_right (by omega)] at ha
        exact h2.ne _ _ a b g0 (by omega) ha hb' hg0 hg1
end
set_option maxRecDepth 100000 in
theorem put0_any (g cap B n d : Nat) (P : Option Addr) (w : World) (hown : w.ownsRow B 25 1 (.slice (some ⟨g, 0, none⟩) 0 cap) 0 []) (hB : B ≤ w.heap.size) :
    Calls Try.prog 19 #[.slice (some ⟨g, 0, none⟩) 0 cap, .slice P n d] w fun e w' => ∃ g' cap', e = .returned (.tuple #[.slice (some ⟨g', 0, none⟩) 1 cap', .bool true]) ∧ Below B w w' ∧ Chg g w w' ∧ w'.ownsRow B 25 1 (.slice (some ⟨g', 0, none⟩) 1 cap') 1 [.slice P n d] := by
  have HO := hide hown
  obtain ⟨i2, hj, hy0, hy1, hy2⟩ := info_parts neInfo2
  clear hown
  go_enter Try.func19, Try.ntmps19
  go_wp2_with fail
  go_loopw [6, 7, 8] (fun a b _ wr => a = .int .i64 0 ∧ b = .int .i64 0 ∧ wr = w) (fun _ _ _ _ => 0)
  case atStart => exact ⟨rfl, rfl, rfl⟩
  case round =>
    obtain ⟨rfl, rfl, hwr⟩ := hrel
    have hwr := hwr.symm
    subst hwr
    go_wp2_with (at_builtin; refine wpList_append_own_at _ rfl _ _ 22 rfl B 25 i2 (.slice none 0 0) 1 24 Try.underlying22 hj hy0 hy1 hy2 rfl (by decide) _ _ _ rfl (HO.out.alloc _) ⟨w.heap.size, 0, none⟩ 1 1 [.slice P n d] rfl rfl ?f1 ?f2 ?f3 ?f4 ?f5 ?_)
    case f2 => first | (intro u hu; simp at hu; subst hu; rfl) | rfl | simp [Value.oneCell']
    case f3 => unfold maxLen; omega
    case f5 => first | (simp; omega) | omega | (show B ≤ w.heap.size + 1; omega)
    intro v' w3 hown' hgrow _ hat
    obtain ⟨g9, c9, hv9, hg9, _⟩ := own_look hown' (by omega)
    subst hv9
    have hal : Below w.heap.size w (w.alloc (.cells #[.slice P n d] 25)) := (Below.refl _ _).alloc (Nat.le_refl _) _
    have hgl : ∀ g0, (Value.slice (some ⟨g, 0, none⟩) 0 cap).ownBlock = some g0 → B ≤ g0 := fun g0 hg0 => ((HO.out.alloc (.cells #[.slice P n d] 25)).lt g0 hg0).1
    have HB3 : Hid (Below B w w3) := hide (((Below.refl B w).alloc hB _).grown hgrow (by simp; omega) hgl)
    have HC3 : Hid (Chg g w w3) := hide ((Chg.of_below hal).grown hgrow (.inl rfl))
    have hgg : g9 = g ∨ w.heap.size ≤ g9 := by
      rcases hat with e | e
      · left; simpa [Value.ownBlock] using e
      · right
        have e2 : g9 = (w.alloc (.cells #[.slice P n d] 25)).heap.size := by simpa [Value.ownBlock] using e
        rw [e2]; simp
    have HO3 := hide hown'
    have hB9 : B ≤ g9 := (own_lt hown' rfl).1
    clear hown' hgrow hat hal hgl
    go_wp2_with fail
    go_loopw [10] (fun i wr => i = .int .i64 0 ∧ wr = w3) (fun _ _ => 0)
    case atStart => exact ⟨by first | rfl | go_num, rfl⟩
    case round =>
      obtain ⟨rfl, hwr⟩ := hrel
      have hwr := hwr.symm
      subst hwr
      obtain ⟨u2, _, hcu2⟩ := own_cell HO3.out 0 (by omega)
      have hfr := own_frozen HO3.out 0
      go_wp2_with fail
      go_ret2
      refine ⟨g9, c9, rfl, HB3.out.setCell (p := ⟨g9, 0, none⟩) hB9 _, HC3.out.store hgg _, ?_⟩
      have h := own_set (i := 0) HO3.out (.slice P n d)
      simpa using h
end Go.Proofs.Ythnkhljgealjdaa
namespace Go.Proofs.Ythnkhljgealjdaa
open Go Go.RowKit
open Classical
set_option maxHeartbeats 4000000
/-- What the equality of words is told. -/
def EqwR (f s : List (List Int)) (xs ys : List Int) (v : Bool) (code : Int) : Prop :=
  (WdC f s [xs, ys] 0 ∧ ((FewT (leH f) (leH s) xs 1000 ∧ (v = true ↔ Tch (leH f) (leH s) xs ys) ∧ code = 0) ∨ (¬ FewT (leH f) (leH s) xs 1000 ∧ v = false ∧ code = 3))) ∨ (WdC f s [xs, ys] code ∧ code ≠ 0 ∧ v = false)
theorem EqwR.ex (f s : List (List Int)) (xs ys : List Int) : ∃ v code, EqwR f s xs ys v code := by
  obtain ⟨c, hc⟩ := WdC.ex f s [xs, ys]
  by_cases h0 : c = 0
  · subst h0
    by_cases hf : FewT (leH f) (leH s) xs 1000
    · obtain ⟨v, hv⟩ := bool_of (Tch (leH f) (leH s) xs ys)
      exact ⟨v, 0, .inl ⟨hc, .inl ⟨hf, hv, rfl⟩⟩⟩
    · exact ⟨false, 3, .inl ⟨hc, .inr ⟨hf, rfl, rfl⟩⟩⟩
  · exact ⟨false, c, .inr ⟨hc, h0, rfl⟩⟩
end Go.Proofs.Ythnkhljgealjdaa
namespace Go.Proofs.Ythnkhljgealjdaa
open Go Go.RowKit
open Classical
set_option maxHeartbeats 4000000
theorem Obj2.first {ts t : TypeId} {lo hi : Nat} {w : World} {A : Option Addr} {rows : List (List Int)} (h : Obj2 ts t lo hi w A rows) (h0 : 0 < rows.length) : ∃ g R C, A = some ⟨g, 0, none⟩ ∧ w.cell? ⟨g, 0, none⟩ = some (.slice R (rows.getD 0 []).length C) ∧ Obj1 t lo hi w R (rows.getD 0 []) := by
  rcases h with ⟨_, rfl⟩ | ⟨g, R, C, rfl, _, _, ⟨cur, h1, h2⟩, h3, _⟩
  · simp at h0
  · exact ⟨g, R 0, C 0, rfl, by rw [cell_of_row w g 0 cur ts (0, 0) h1]; exact h2 0 h0, h3 0 h0⟩
/-- What the normal word is told. -/
def NwR (f s : List (List Int)) (xs zs : List Int) (code : Int) : Prop := ∃ L, CowR f s xs L code ∧ zs = L.getD 0 []
theorem CowR.zero {f s : List (List Int)} {xs : List Int} {L : List (List Int)} (h : CowR f s xs L 0) : WdC f s [xs] 0 ∧ Cls (leH f) (leH s) xs L ∧ Asc L ∧ L.length ≤ 1000 := by
  rcases h with ⟨h1, ⟨h2, h3, h4, _⟩ | ⟨_, _, h⟩⟩ | ⟨_, h, _⟩
  · exact ⟨h1, h2, h3, h4⟩
  · omega
  · omega
theorem CowR.none {f s : List (List Int)} {xs : List Int} {L : List (List Int)} {code : Int} (h : CowR f s xs L code) (hc : code ≠ 0) : L = [] := by
  rcases h with ⟨h1, ⟨_, _, _, h2⟩ | ⟨_, h2, _⟩⟩ | ⟨_, _, h2⟩
  · exact absurd h2 hc
  · exact h2
  · exact h2
theorem NwR.ex (f s : List (List Int)) (xs : List Int) : ∃ zs code, NwR f s xs zs code ∧ zs.length ≤ 1048576 := by
  obtain ⟨L, code, h, h1, h2⟩ := CowR.ex f s xs
  refine ⟨L.getD 0 [], code, ⟨L, h, rfl⟩, ?_⟩
  by_cases h0 : 0 < L.length
  · exact h2 0 h0
  · have e : L = [] := List.eq_nil_of_length_eq_zero (by omega)
    subst e; simp
set_option maxRecDepth 100000 in
theorem nwS_any (A : Option Addr) (n c : Nat) (f : List (List Int)) (B : Option Addr) (k d : Nat) (s : List (List Int)) (C : Option Addr) (m e : Nat) (xs zs : List Int) (code : Int) (kz : Nat) (w : World) (hz : ZArg 1048576 w A n f B k s) (hm : xs.length = m) (hb : m ≤ 1048576) (he : m = 0 → e = 0) (hr : Rd w C xs) (hres : NwR f s xs zs code) (hkz : zs.length = kz) :
    Calls Try.prog 18 #[.agg #[.slice A n c, .slice B k d], .slice C m e] w (RPost 2 kz zs code w) := by
  have HZ := hide hz
  have HM := hide hm
  have HR := hide hr
  have HKZ := hide hkz
  obtain ⟨L, hL, hzL⟩ := hres
  have HC := hide hL
  have HZL := hide hzL
  have HB0 := hide ((Below.refl _ w).alloc (Nat.le_refl _) (Obj.cells #[Value.slice A n c, Value.slice B k d] 29))
  have HK0 := hide (Blk.new w 29 [.slice A n c, .slice B k d])
  have d0 : ¬ code = 0 → (code != 0) = true := fun h => by simpa using h
  clear hz hm hr hkz hL hzL
  go_enter Try.func18, Try.ntmps18
  have k0 := HK0.out.cell 0 _ rfl
  have k1 := HK0.out.cell 1 _ rfl
  go_wp2_with fail
  clear k0 k1
  refine (cowS_any A n c f B k d s C m e xs L code _ (HZ.out.later HB0.out) HM.out hb he (HR.out.later HB0.out) HC.out).mono ?_
  rintro e w1 ⟨v1, vals1, rfl, hb1, hl1⟩
  obtain ⟨A1, c1, hv1, hobj⟩ := hl1.shape
  subst hv1
  have HB1 := hide (HB0.out.trans (hb1.mono HB0.out.size))
  have HO1 := hide (hobj.mono (lo' := w.heap.size) HB0.out.size (Nat.le_refl _))
  clear hb1 hobj hl1
  by_cases hc0 : code = 0
  · subst hc0
    obtain ⟨_, hcl, _, _⟩ := HC.out.zero
    obtain ⟨g, R, CC, rfl, hcell, hrow⟩ := HO1.out.first hcl.pos
    rw [← HZL.out, HKZ.out] at hcell
    rw [← HZL.out] at hrow
    have HRO := hide hrow
    clear hcl hrow d0
    have hlp : (0 : Int) < L.length := by have h := HC.out.zero.2.1.pos; omega
    obtain ⟨ll, hll⟩ : ∃ ll, L.length = ll := ⟨_, rfl⟩
    rw [hll] at hlp ⊢
    go_wp2_with fail
    go_ret2
    exact ⟨_, _, rfl, HB1.out, HRO.out.res (Nat.le_refl _)⟩
  · have hz1 : zs = [] := by rw [HZL.out, HC.out.none hc0]; rfl
    subst hz1
    obtain rfl : kz = 0 := by simpa using HKZ.out.symm
    have hcb := d0 hc0
    clear d0
    go_wp2_with fail
    go_ret2
    exact ⟨_, _, rfl, HB1.out, .inl ⟨rfl, rfl⟩⟩
theorem nwS (A : Option Addr) (n c : Nat) (f : List (List Int)) (B : Option Addr) (k d : Nat) (s : List (List Int)) (C : Option Addr) (m : Nat) (xs zs : List Int) (code : Int) (kz : Nat) (w : World) (hz : ZArg 1048576 w A n f B k s) (hm : xs.length = m) (hb : m ≤ 1048576) (hr : Rd w C xs) (hres : NwR f s xs zs code) (hkz : zs.length = kz) :
    Calls Try.prog 18 #[.agg #[.slice A n c, .slice B k d], .slice C m m] w (RPost 2 kz zs code w) :=
  nwS_any A n c f B k d s C m m xs zs code kz w hz hm hb (fun h => h) hr hres hkz
end Go.Proofs.Ythnkhljgealjdaa
namespace Go.Proofs.Ythnkhljgealjdaa
open Go Go.RowKit
open Classical
set_option maxHeartbeats 4000000
section
variable {h1 h2 b1 b2 : Nat → Nat → Int} {n : Nat}
/-- Moves of a begin. -/
theorem mv_front (r u : List Int) (k : Nat) (hk : k + 1 < u.length) : mvL h1 h2 (u ++ r) k = mvL h1 h2 u k ++ r := by
  have e1 : elN (u ++ r) k = elN u k := by unfold elN; simp only [List.getD_eq_getElem?_getD]; rw [List.getElem?_append_left (by omega)]
  have e2 : elN (u ++ r) (k + 1) = elN u (k + 1) := by unfold elN; simp only [List.getD_eq_getElem?_getD]; rw [List.getElem?_append_left (by omega)]
  unfold mvL
  rw [e1, e2]
  rw [List.set_append_left _ _ (by omega), List.set_append_left _ _ (by simp; omega)]
theorem Tch.front (r : List Int) {u u' : List Int} (h : Tch h1 h2 u u') : Tch h1 h2 (u ++ r) (u' ++ r) := by
  induction h with
  | refl => exact .refl
  | @step y j hy hk ih =>
    have hl := Tch.len hy
    have h9 := Tch.step ih (k := j) (by rw [List.length_append]; omega)
    rw [mv_front r y j (by omega)] at h9
    exact h9
theorem Tup.of_mem {xs : List Int} (hl : xs.length ≤ 12) (h : ∀ v ∈ xs, 0 ≤ v ∧ v < (n : Int)) : Tup n xs := ⟨hl, fun j hj => h _ (tgetD_mem xs j 0 hj)⟩
theorem Rests.of_cls {u x : List Int} {L : List (List Int)} (hcl : Cls h1 h2 x L) : ∃ R, Rests h1 h2 u x R := by
  obtain ⟨R, ha, _, hm⟩ := asc_ex (restL u L) (restL_nodup u L hcl.1)
  exact ⟨R, ha, fun r => by rw [hm, restL_mem]; exact hcl.2 _⟩
theorem Rests.uniq {u x : List Int} {R R' : List (List Int)} (h : Rests h1 h2 u x R) (h' : Rests h1 h2 u x R') : R = R' := Asc.eq h.1 h'.1 (fun r => (h.2 r).trans (h'.2 r).symm)
theorem Rests.cand (hp : PB n h1 h2 b1 b2) {u x : List Int} {R S : List (List Int)} (hu : Tup n u) (hx : Tup n x) (hR : Rests h1 h2 u x R) (hS : Cls h1 h2 u S) {p : List Int} (hp' : Tch h1 h2 x p) (hm : p.take u.length ∈ S) : p.drop u.length ∈ R := by
  rw [hR.2]
  have k1 := (hS.2 _).1 hm
  have k2 := k1.front (p.drop u.length)
  rw [List.take_append_drop] at k2
  have hpt := hp'.tup hp hx
  have hl := k1.len
  rw [List.length_take] at hl
  have h12 := hpt.1
  have ht : Tup n (u ++ p.drop u.length) := Tup.of_mem (by simp; omega) (fun v hv => by
    rcases List.mem_append.1 hv with hv | hv
    · exact hu.mem v hv
    · exact hpt.mem v (List.mem_of_mem_drop hv))
  exact hp'.trans (k2.symm hp ht)
theorem Rests.conv {u x : List Int} {R S L : List (List Int)} (hR : Rests h1 h2 u x R) (hS : Cls h1 h2 u S) (hL : Cls h1 h2 x L) {r : List Int} (hr : r ∈ R) : u ++ r ∈ L ∧ (u ++ r).take u.length ∈ S ∧ (u ++ r).drop u.length = r :=
  ⟨(hL.2 _).2 ((hR.2 r).1 hr), by simp; exact (hS.2 _).2 .refl, by simp⟩
end
theorem Asc.first_least {R : List (List Int)} (h : Asc R) {r : List Int} (hr : r ∈ R) : lessL r (R.getD 0 []) = false := by
  obtain ⟨i, hi, e⟩ := List.getElem_of_mem hr
  by_cases h0 : i = 0
  · subst h0
    have : R.getD 0 [] = r := by simp [hi, e]
    rw [this, lessL_irr]
  · have k := h.at (i := 0) (j := i) (by omega) hi
    have e2 : R.getD i [] = r := by simp [hi, e]
    rw [e2] at k
    cases h3 : lessL r (R.getD 0 []) with
    | false => rfl
    | true =>
      have := lessL_trans _ _ _ k h3
      rw [lessL_irr] at this
      cases this
theorem Asc.least {R : List (List Int)} (h : Asc R) {z : List Int} (hz : z ∈ R) (hm : ∀ r, r ∈ R → lessL r z = false) : 0 < R.length ∧ R.getD 0 [] = z := by
  obtain ⟨i, hi, e⟩ := List.getElem_of_mem hz
  have e2 : R.getD i [] = z := by simp [hi, e]
  refine ⟨by omega, ?_⟩
  by_cases h0 : i = 0
  · subst h0; exact e2
  · have k := h.at (i := 0) (j := i) (by omega) hi
    rw [e2, hm _ (tgetD_mem R 0 [] (by omega))] at k
    cases k
/-- The least rest is a normal word. -/
theorem Rests.normal {f s : List (List Int)} {n : Nat} (hs : SolF f s) (hn : f.length = n) {u x : List Int} {R : List (List Int)} (hwx : Wrd n x) (hf : FewT (leH f) (leH s) x 1000) (hR : Rests (leH f) (leH s) u x R) (h0 : 0 < R.length) : NwR f s (R.getD 0 []) (R.getD 0 []) 0 := by
  have hp := hs.pb hn
  obtain ⟨z, hz⟩ : ∃ z, R.getD 0 [] = z := ⟨_, rfl⟩
  rw [hz]
  have hzR : z ∈ R := by rw [← hz]; exact tgetD_mem R 0 [] h0
  have hzT := (hR.2 z).1 hzR
  have hl := hzT.len
  rw [List.length_append] at hl
  have h8 := hwx.1
  have htz := hzT.tup hp hwx.tup
  have hwz : Wrd n z := ⟨by omega, fun j hj => htz.mem _ (List.mem_append_right _ (tgetD_mem z j 0 hj))⟩
  obtain ⟨C, hC⟩ := Cls.ex hp hwz.tup
  obtain ⟨C', ha, hlC, hm⟩ := asc_ex C hC.1
  have hC' := hC.sorted ha hm
  have hsub : ∀ y, y ∈ C' → y ∈ R := fun y hy => (hR.2 y).2 (hzT.trans (((hC'.2 y).1 hy).behind u))
  obtain ⟨L, hL, hLl⟩ := hf
  have hb1 := tnodup_le ha.nodup hsub
  have hb2 : R.length ≤ (restL u L).length := tnodup_le hR.1.nodup (fun r hr => (restL_mem u L r).2 ((hL.2 _).2 ((hR.2 r).1 hr)))
  have hb3 := restL_len u L
  have hfin := ha.least (z := z) ((hC'.2 z).2 .refl) (fun r hr => by rw [← hz]; exact hR.1.first_least (hsub r hr))
  refine ⟨C', .inl ⟨.inl ⟨hs, wrds1.2 (by rw [hn]; exact hwz), rfl⟩, .inl ⟨hC', ha, by omega, rfl⟩⟩, hfin.2.symm⟩
theorem Rests.wrd {f s : List (List Int)} {u x : List Int} {R : List (List Int)} (hR : Rests (leH f) (leH s) u x R) {r : List Int} (hr : r ∈ R) : u.length + r.length = x.length := by
  have h := ((hR.2 r).1 hr).len
  rw [List.length_append] at h
  exact h
theorem Rd.take {w : World} {A : Option Addr} {xs : List Int} (h : Rd w A xs) (k : Nat) : Rd w A (xs.take k) := fun h0 => by
  have hl : (xs.take k).length ≤ xs.length := by rw [List.length_take]; omega
  obtain ⟨b, o, e, hb, hc⟩ := h (by omega)
  refine ⟨b, o, e, hb, fun i hi => ?_⟩
  rw [hc i (by omega)]
  have : i < k := by rw [List.length_take] at hi; omega
  simp [this]
theorem Rd.drop {w : World} {b o : Nat} {xs : List Int} (h : Rd w (some ⟨b, o, none⟩) xs) (k : Nat) : Rd w (some ⟨b, o + k, none⟩) (xs.drop k) := fun h0 => by
  have hl : (xs.drop k).length = xs.length - k := by simp
  obtain ⟨b', o', e, hb, hc⟩ := h (by omega)
  injection e with e
  injection e with e1 e2
  subst e1 e2
  refine ⟨_, _, rfl, hb, fun i hi => ?_⟩
  have h := hc (k + i) (by omega)
  rw [← Nat.add_assoc] at h
  rw [h]
  simp [List.getD_eq_getElem?_getD, List.getElem?_drop]
set_option maxRecDepth 100000 in
theorem own0k_any (ad : Addr) (c : Nat) (w : World) :
    Calls Try.prog 38 #[.slice (some ad) 0 c] w fun e w' => ∃ g, e = .returned (.slice (some ⟨g, 0, none⟩) 0 0) ∧ Below w.heap.size w w' := by
  obtain ⟨i0, hi, hz0, hz1, hz2⟩ := info_parts clInfo
  go_enter Try.func38, Try.ntmps38
  go_wp2_with (at_builtin; refine wpList_append_fits_any _ rfl _ _ 25 rfl w.heap.size 2 i0 1 Try.underlying25 hi hz1 w.heap.size 0 0 [] rfl (ne_empty w 2) (some ad) 0 c [] rfl rfl (fun h => by cases h) (fun _ _ j u hu => by simp at hu) (fun u hu => by simp at hu) (Nat.le_refl _) ?_)
  intro w1 hown' hgrow
  have HB : Hid (Below w.heap.size w w1) := hide (((Below.refl _ _).alloc (Nat.le_refl _) _).grown hgrow (by simp) (fun g hg => by cases hg; exact Nat.le_refl _))
  clear hown' hgrow
  go_wp2_with fail
  go_ret
  exact ⟨_, rfl, HB.out⟩
/-- A copy of any list, with no room behind an empty one. -/
theorem ownr_any (ad : Addr) (n c : Nat) (xs : List Int) (w : World) (hn : xs.length = n) (hbn : n ≤ 1048576) (hr : Rd w (some ad) xs) :
    Calls Try.prog 38 #[.slice (some ad) n c] w fun e w' => ∃ A' c', e = .returned (.slice A' n c') ∧ Below w.heap.size w w' ∧ (n = 0 → c' = 0) ∧ Rd w' A' xs := by
  by_cases h0 : n = 0
  · subst h0
    refine (own0k_any ad c w).mono ?_
    rintro e w2 ⟨g, rfl, hb⟩
    exact ⟨_, _, rfl, hb, fun _ => rfl, fun h => by omega⟩
  · obtain ⟨b, o, e, hb, hc⟩ := hr (by omega)
    injection e with e
    subst e
    refine (own_any b o n c xs w hn hbn hb hc).mono ?_
    rintro e w2 ⟨v, rfl, hb2, how⟩
    obtain ⟨A', c', rfl, hres⟩ := own_shape how
    exact ⟨_, _, rfl, hb2, fun h => absurd h h0, hres.obj.rd⟩
theorem classS_both (A : Option Addr) (n c : Nat) (f : List (List Int)) (B : Option Addr) (d : Nat) (s : List (List Int)) (C : Option Addr) (m e : Nat) (x : List Int) (most : Nat) (w : World) (hz : ZArg 1048576 w A n f B n s) (hs : SolF f s) (ht : Tup n x) (hm : x.length = m) (he : m = 0 → e = 0) (hr : Rd w C x) (hl1 : 1 ≤ most) (hl : most ≤ 5000) :
    Calls Try.prog 27 #[.agg #[.slice A n c, .slice B n d], .slice C m e, .int .i64 most] w fun e w' => ∃ (v : Value) (r : Bool), e = .returned (.tuple #[v, .bool r]) ∧ Below w.heap.size w w' ∧ (r = true ↔ FewT (leH f) (leH s) x most) ∧ (r = true → ∃ L g c4 vals, v = .slice (some ⟨g, 0, none⟩) L.length c4 ∧ Cls (leH f) (leH s) x L ∧ L.length ≤ most ∧ LstV 25 2 w.heap.size w' v L vals ∧ CapsV vals ∧ g < w'.heap.size ∧ ∀ i u, vals[i]? = some u → w'.cell? ⟨g, i, none⟩ = some u) := by
  refine (classC_any A n c f B d s C m e x most w hz hs ht hm he hr hl1 hl).mono ?_
  rintro e w2 (⟨L, v, vals, h1, h2, h3, rfl, h5, h6, h7⟩ | ⟨h1, rfl, h3⟩)
  · obtain ⟨g, c4, hv, hg, hcells⟩ := own_look h6.own h1.pos
    exact ⟨v, true, rfl, h5, ⟨fun _ => ⟨L, h1, h3⟩, fun _ => rfl⟩, fun _ => ⟨L, g, c4, vals, hv, h1, h3, h6, h7, hg, hcells⟩⟩
  · exact ⟨_, false, rfl, h3, ⟨fun h => by simp at h, fun h => absurd h h1⟩, fun h => by simp at h⟩
end Go.Proofs.Ythnkhljgealjdaa
namespace Go.Proofs.Ythnkhljgealjdaa
open Go Go.RowKit
open Classical
set_option maxHeartbeats 1000000
/-! All words with some letters in order, and the normal ones among them. -/
/-- All words of k letters of a set of n, in order. -/
def wds (n : Nat) : Nat → List (List Int)
  | 0 => [[]]
  | k + 1 => (wds n k).flatMap fun t => (List.range n).map fun x : Nat => t ++ [(x : Int)]
/-- The word of k letters with a number. -/
def dig (n : Nat) : Nat → Nat → List Int
  | 0, _ => []
  | k + 1, w => dig n k (w / n) ++ [((w % n : Nat) : Int)]
theorem dig_len (n : Nat) : ∀ k w, (dig n k w).length = k
  | 0, _ => rfl
  | k + 1, w => by simp [dig, dig_len n k]
theorem flat_getD {α : Type} (n : Nat) (g : List Int → Nat → α) (d : α) : ∀ (L : List (List Int)) (q r : Nat), q < L.length → r < n → (L.flatMap fun t => (List.range n).map (g t)).getD (q * n + r) d = g (L.getD q []) r
  | [], q, r, h, _ => by simp at h
  | t :: L, 0, r, _, hr => by
    simp only [List.flatMap_cons, Nat.zero_mul, Nat.zero_add, List.getD_eq_getElem?_getD]
    rw [List.getElem?_append_left (by simpa using hr)]
    simp [hr]
  | t :: L, q + 1, r, h, hr => by
    simp only [List.flatMap_cons, List.getD_eq_getElem?_getD]
    have e : (q + 1) * n + r = n + (q * n + r) := by rw [Nat.succ_mul]; omega
    rw [e, List.getElem?_append_right (by simp), List.length_map, List.length_range, Nat.add_sub_cancel_left]
    have ih := flat_getD n g d L q r (by simpa using h) hr
    simp only [List.getD_eq_getElem?_getD] at ih
    rw [ih]
    simp
theorem wds_len (n : Nat) : ∀ k, (wds n k).length = n ^ k
  | 0 => rfl
  | k + 1 => by
    have h : ∀ L : List (List Int), (L.flatMap fun t => (List.range n).map fun x : Nat => t ++ [(x : Int)]).length = L.length * n := by
      intro L
      induction L with
      | nil => simp
      | cons t L ih => rw [List.flatMap_cons, List.length_append, ih]; simp [Nat.succ_mul]; omega
    rw [wds, h, wds_len n k, Nat.pow_succ]
theorem wds_at (n : Nat) : ∀ k w, w < n ^ k → (wds n k).getD w [] = dig n k w
  | 0, w, h => by
    have : w = 0 := by simpa using h
    subst this; rfl
  | k + 1, w, h => by
    have hn : 0 < n := by
      rcases Nat.eq_zero_or_pos n with e | e
      · subst e; simp at h
      · exact e
    have hq : w / n < n ^ k := by rw [Nat.pow_succ] at h; exact Nat.div_lt_of_lt_mul (by rw [Nat.mul_comm]; exact h)
    have e : w = (w / n) * n + w % n := by have := Nat.div_add_mod w n; rw [Nat.mul_comm] at this; omega
    have h2 := flat_getD n (fun t x => t ++ [((x : Nat) : Int)]) [] (wds n k) (w / n) (w % n) (by rw [wds_len]; exact hq) (Nat.mod_lt _ hn)
    rw [← e] at h2
    show (wds n (k + 1)).getD w [] = _
    unfold wds
    rw [h2, wds_at n k _ hq]
    rfl
theorem wds_mem {n : Nat} : ∀ k (xs : List Int), xs ∈ wds n k ↔ xs.length = k ∧ ∀ v ∈ xs, 0 ≤ v ∧ v < (n : Int)
  | 0, xs => by
    simp only [wds, List.mem_singleton]
    constructor
    · intro e; subst e; simp
    · intro h; exact List.eq_nil_of_length_eq_zero h.1
  | k + 1, xs => by
    simp only [wds, List.mem_flatMap, List.mem_map, List.mem_range]
    constructor
    · rintro ⟨t, ht, x, hx, rfl⟩
      obtain ⟨h1, h2⟩ := (wds_mem k t).1 ht
      refine ⟨by simp [h1], fun v hv => ?_⟩
      rcases List.mem_append.1 hv with h | h
      · exact h2 v h
      · have : v = x := by simpa using h
        omega
    · rintro ⟨h1, h2⟩
      have hne : xs ≠ [] := fun e => by subst e; simp at h1
      obtain ⟨t, x, rfl⟩ : ∃ t x, xs = t ++ [x] := ⟨_, _, (List.dropLast_concat_getLast hne).symm⟩
      have hx := h2 x (by simp)
      refine ⟨t, (wds_mem k t).2 ⟨by simpa using h1, fun v hv => h2 v (by simp [hv])⟩, x.toNat, by omega, ?_⟩
      have : ((x.toNat : Nat) : Int) = x := by omega
      rw [this]
theorem lessL_app : ∀ (t t' : List Int) (a b : List Int), t.length = t'.length → lessL t t' = true → lessL (t ++ a) (t' ++ b) = true
  | [], [], _, _, _, h => by simp [lessL] at h
  | [], _ :: _, _, _, h, _ => by simp at h
  | _ :: _, [], _, _, h, _ => by simp at h
  | x :: t, y :: t', a, b, hl, h => by
    simp only [List.cons_append, lessL] at h ⊢
    by_cases e : x = y
    · rw [if_pos e] at h ⊢
      exact lessL_app t t' a b (by simpa using hl) h
    · rw [if_neg e] at h ⊢
      exact h
theorem lessL_pre : ∀ (t a b : List Int), lessL (t ++ a) (t ++ b) = lessL a b
  | [], a, b => rfl
  | x :: t, a, b => by simp [lessL, lessL_pre t a b]
theorem wds_asc (n : Nat) : ∀ k, Asc (wds n k)
  | 0 => Asc.one []
  | k + 1 => by
    have ih := wds_asc n k
    have hlen : ∀ t, t ∈ wds n k → t.length = k := fun t ht => ((wds_mem k t).1 ht).1
    unfold wds
    have key : ∀ L : List (List Int), Asc L → (∀ t ∈ L, t.length = k) → Asc (L.flatMap fun t => (List.range n).map fun x : Nat => t ++ [(x : Int)]) := by
      intro L
      induction L with
      | nil => intro _ _; exact List.Pairwise.nil
      | cons t L ihL =>
        intro ha hl
        have ha' := List.pairwise_cons.1 ha
        rw [List.flatMap_cons]
        refine List.pairwise_append.2 ⟨?_, ihL ha'.2 (fun t ht => hl t (by simp [ht])), ?_⟩
        · refine List.pairwise_map.2 (List.Pairwise.imp ?_ List.pairwise_lt_range)
          intro a b hab
          rw [lessL_pre]
          simp only [lessL]
          rw [if_neg (by omega)]
          exact decide_eq_true (by omega)
        · intro p hp q hq
          obtain ⟨x, _, rfl⟩ := List.mem_map.1 hp
          obtain ⟨t', ht', hq'⟩ := List.mem_flatMap.1 hq
          obtain ⟨y, _, rfl⟩ := List.mem_map.1 hq'
          exact lessL_app t t' _ _ (by rw [hl t (by simp), hl t' (by simp [ht'])]) (ha'.1 t' ht')
    exact key _ ih hlen
section
variable (h1 h2 : Nat → Nat → Int)
/-- The word is the least one of its class. -/
def IsNw (t : List Int) : Prop := ∀ y, Tch h1 h2 t y → lessL y t = false
/-- The normal words of a list. -/
noncomputable def nws (l : List (List Int)) : List (List Int) := l.filter fun t => decide (IsNw h1 h2 t)
end
section
variable {h1 h2 b1 b2 : Nat → Nat → Int} {n : Nat}
theorem nws_app (l : List (List Int)) (t : List Int) : nws h1 h2 (l ++ [t]) = nws h1 h2 l ++ (if IsNw h1 h2 t then [t] else []) := by
  unfold nws
  rw [List.filter_append]
  congr 1
  by_cases h : IsNw h1 h2 t <;> simp [h]
theorem nws_mem (l : List (List Int)) (t : List Int) : t ∈ nws h1 h2 l ↔ t ∈ l ∧ IsNw h1 h2 t := by
  unfold nws; rw [List.mem_filter]; simp
theorem nws_len (l : List (List Int)) : (nws h1 h2 l).length ≤ l.length := List.length_filter_le _ _
theorem wds_tup {k : Nat} (hk : k ≤ 12) {t : List Int} (h : t ∈ wds n k) : Tup n t := by
  obtain ⟨a, b⟩ := (wds_mem k t).1 h
  exact Tup.of_mem (by omega) b
theorem Tch.wds (hp : PB n h1 h2 b1 b2) {k : Nat} (hk : k ≤ 12) {t y : List Int} (h : t ∈ wds n k) (hy : Tch h1 h2 t y) : y ∈ wds n k :=
  (wds_mem k y).2 ⟨by rw [hy.len]; exact ((wds_mem k t).1 h).1, fun v hv => (hy.tup hp (wds_tup hk h)).mem v hv⟩
/-- Each word has a normal one in its class. -/
theorem IsNw.ex (hp : PB n h1 h2 b1 b2) {t : List Int} (ht : Tup n t) : ∃ y, Tch h1 h2 t y ∧ IsNw h1 h2 y := by
  obtain ⟨C, hC⟩ := Cls.ex hp ht
  obtain ⟨C', ha, hl, hm⟩ := asc_ex C hC.1
  have hC' := hC.sorted ha hm
  have h0 := hC'.pos
  have hT := (hC'.2 _).1 (tgetD_mem C' 0 [] h0)
  exact ⟨_, hT, fun z hz => ha.first_least ((hC'.2 z).2 (hT.trans hz))⟩
/-- A list of words, of which all that are less than one of them stand before it. -/
theorem nws_met (hp : PB n h1 h2 b1 b2) {k w : Nat} (hk : k ≤ 12) (hw : w < n ^ k) : (∃ y, y ∈ nws h1 h2 ((wds n k).take w) ∧ Tch h1 h2 y (dig n k w)) ↔ ¬ IsNw h1 h2 (dig n k w) := by
  have hat := wds_at n k w hw
  have hlen : w < (wds n k).length := by rw [wds_len]; exact hw
  have hmem : dig n k w ∈ wds n k := by rw [← hat]; exact tgetD_mem _ _ _ hlen
  have htup := wds_tup hk hmem
  constructor
  · rintro ⟨y, hy, hT⟩ hN
    obtain ⟨hyt, hyn⟩ := (nws_mem _ _).1 hy
    obtain ⟨i, hi, e⟩ := List.getElem_of_mem hyt
    have hi2 : i < w := by simp at hi; omega
    have e2 : (wds n k).getD i [] = y := by
      rw [← e]
      simp [List.getD_eq_getElem?_getD, List.getElem?_eq_getElem (show i < (wds n k).length by omega)]
    have hlt := (wds_asc n k).at (i := i) (j := w) hi2 hlen
    rw [e2, hat] at hlt
    have hyw : y ∈ wds n k := by rw [← e2]; exact tgetD_mem _ _ _ (by omega)
    rw [hN y (hT.symm hp (wds_tup hk hyw))] at hlt
    cases hlt
  · intro hN
    obtain ⟨y, hT, hyn⟩ := IsNw.ex hp htup
    have hyw := hT.wds hp hk hmem
    refine ⟨y, (nws_mem _ _).2 ⟨?_, hyn⟩, hT.symm hp htup⟩
    obtain ⟨i, hi, e⟩ := List.getElem_of_mem hyw
    have e2 : (wds n k).getD i [] = y := by simp [hi, e]
    have hne : y ≠ dig n k w := fun e => hN (by rw [← e]; exact hyn)
    have hiw : i < w := by
      rcases Nat.lt_trichotomy i w with h | h | h
      · exact h
      · subst h; rw [hat] at e2; exact absurd e2.symm hne
      · have hlt := (wds_asc n k).at (i := w) (j := i) h hi
        rw [e2, hat] at hlt
        -- then the word is less than the normal one of its class
        have h3 := hyn _ (hT.symm hp htup)
        rw [hlt] at h3; cases h3
    rw [List.mem_iff_getElem]
    exact ⟨i, by simp; omega, by rw [List.getElem_take]; exact e⟩
end
/-- The number of a word. -/
def numW (n : Nat) (xs : List Int) : Nat := xs.foldl (fun a x => a * n + x.toNat) 0
theorem numW_app (n : Nat) (xs : List Int) (x : Int) : numW n (xs ++ [x]) = numW n xs * n + x.toNat := by simp [numW]
theorem numW_wds {n : Nat} : ∀ k (xs : List Int), xs ∈ wds n k → numW n xs < n ^ k ∧ dig n k (numW n xs) = xs
  | 0, xs, h => by
    have : xs = [] := by simpa [wds] using h
    subst this
    exact ⟨by simp [numW], rfl⟩
  | k + 1, xs, h => by
    obtain ⟨t, ht, h2⟩ := List.mem_flatMap.1 h
    obtain ⟨x, hx, rfl⟩ := List.mem_map.1 h2
    have hx' := List.mem_range.1 hx
    obtain ⟨h3, h4⟩ := numW_wds k t ht
    rw [numW_app]
    have e : ((x : Nat) : Int).toNat = x := rfl
    rw [e]
    have hd : (numW n t * n + x) / n = numW n t := by
      rw [Nat.mul_comm, Nat.mul_add_div (by omega), Nat.div_eq_of_lt hx', Nat.add_zero]
    have hm : (numW n t * n + x) % n = x := by
      rw [Nat.mul_comm, Nat.mul_add_mod, Nat.mod_eq_of_lt hx']
    refine ⟨?_, ?_⟩
    · have h5 : (numW n t + 1) * n ≤ n ^ k * n := Nat.mul_le_mul_right n h3
      rw [Nat.pow_succ]
      rw [Nat.succ_mul] at h5
      omega
    · show dig n k ((numW n t * n + x) / n) ++ [(((numW n t * n + x) % n : Nat) : Int)] = _
      rw [hd, hm, h4]
theorem dig_inj {n : Nat} : ∀ k i j, i < n ^ k → j < n ^ k → dig n k i = dig n k j → i = j
  | 0, i, j, hi, hj, _ => by simp at hi hj; omega
  | k + 1, i, j, hi, hj, h => by
    rw [Nat.pow_succ, Nat.mul_comm] at hi hj
    have h2 := List.append_inj' (show dig n k (i / n) ++ [((i % n : Nat) : Int)] = dig n k (j / n) ++ [((j % n : Nat) : Int)] from h) rfl
    have h3 := dig_inj k _ _ (Nat.div_lt_of_lt_mul hi) (Nat.div_lt_of_lt_mul hj) h2.1
    have h4 : ((i % n : Nat) : Int) = ((j % n : Nat) : Int) := by simpa using h2.2
    have e1 := Nat.div_add_mod i n
    have e2 := Nat.div_add_mod j n
    rw [h3] at e1
    have h5 : i % n = j % n := by omega
    rw [h5] at e1
    omega
theorem dig_mem {n k w : Nat} (h : w < n ^ k) : dig n k w ∈ wds n k := by
  rw [← wds_at n k w h]
  exact tgetD_mem _ _ _ (by rw [wds_len]; exact h)
theorem wds_take (n k w : Nat) (h : w < n ^ k) : (wds n k).take (w + 1) = (wds n k).take w ++ [dig n k w] := by
  have hl : w < (wds n k).length := by rw [wds_len]; exact h
  rw [List.take_succ_eq_append_getElem hl, ← wds_at n k w h]
  simp [hl]
end Go.Proofs.Ythnkhljgealjdaa
namespace Go.Proofs.Ythnkhljgealjdaa
open Go Go.RowKit
open Classical
set_option maxHeartbeats 1000000
/-! The first words of classes in a list. -/
section
variable (h1 h2 : Nat → Nat → Int)
/-- The words of a list that no earlier one of it leads to. -/
noncomputable def frs (L : List (List Int)) : List (List Int) := L.foldl (fun acc t => if ∃ y, y ∈ acc ∧ Tch h1 h2 y t then acc else acc ++ [t]) []
end
section
variable {h1 h2 b1 b2 : Nat → Nat → Int} {n : Nat}
theorem frs_nil : frs h1 h2 [] = [] := rfl
theorem frs_app (L : List (List Int)) (t : List Int) : frs h1 h2 (L ++ [t]) = if ∃ y, y ∈ frs h1 h2 L ∧ Tch h1 h2 y t then frs h1 h2 L else frs h1 h2 L ++ [t] := by
  unfold frs
  rw [List.foldl_append]
  rfl
theorem frs_old {L : List (List Int)} {t : List Int} (h : ∃ y, y ∈ frs h1 h2 L ∧ Tch h1 h2 y t) : frs h1 h2 (L ++ [t]) = frs h1 h2 L := by rw [frs_app, if_pos h]
theorem frs_new {L : List (List Int)} {t : List Int} (h : ¬ ∃ y, y ∈ frs h1 h2 L ∧ Tch h1 h2 y t) : frs h1 h2 (L ++ [t]) = frs h1 h2 L ++ [t] := by rw [frs_app, if_neg h]
theorem take_next {L : List (List Int)} {i : Nat} (hi : i < L.length) : L.take (i + 1) = L.take i ++ [L.getD i []] := by
  rw [List.take_succ_eq_append_getElem hi]
  simp [hi]
theorem frs_take {L : List (List Int)} : ∀ i, i ≤ L.length → ∃ R, frs h1 h2 L = frs h1 h2 (L.take i) ++ R := by
  intro i hi
  obtain ⟨d, hd⟩ : ∃ d, L.length = i + d := ⟨L.length - i, by omega⟩
  induction d generalizing i with
  | zero => exact ⟨[], by rw [List.take_of_length_le (by omega), List.append_nil]⟩
  | succ d ih =>
    obtain ⟨R, hR⟩ := ih (i + 1) (by omega) (by omega)
    rw [take_next (by omega), frs_app] at hR
    split at hR
    · exact ⟨R, hR⟩
    · exact ⟨[L.getD i []] ++ R, by rw [hR, List.append_assoc]⟩
theorem frs_sub (L : List (List Int)) (t : List Int) (h : t ∈ frs h1 h2 L) : t ∈ L := by
  have key : ∀ (M : List (List Int)) (t : List Int), t ∈ frs h1 h2 M.reverse → t ∈ M.reverse := by
    intro M
    induction M with
    | nil => intro t h; simp [frs] at h
    | cons a M ih =>
      intro t h
      rw [List.reverse_cons] at h ⊢
      rw [frs_app] at h
      split at h
      · exact List.mem_append_left _ (ih t h)
      · rcases List.mem_append.1 h with h | h
        · exact List.mem_append_left _ (ih t h)
        · exact List.mem_append_right _ h
  have h2 := key L.reverse t (by rw [List.reverse_reverse]; exact h)
  rwa [List.reverse_reverse] at h2
theorem frs_len (L : List (List Int)) : (frs h1 h2 L).length ≤ L.length := by
  have key : ∀ M : List (List Int), (frs h1 h2 M.reverse).length ≤ M.length := by
    intro M
    induction M with
    | nil => simp [frs]
    | cons a M ih =>
      rw [List.reverse_cons, frs_app]
      split
      · simp; omega
      · simp; omega
  have h2 := key L.reverse
  rwa [List.reverse_reverse, List.length_reverse] at h2
/-- Of all words in order the first ones are the normal ones. -/
theorem frs_wds (hp : PB n h1 h2 b1 b2) {k : Nat} (hk : k ≤ 12) : ∀ w, w ≤ n ^ k → frs h1 h2 ((wds n k).take w) = nws h1 h2 ((wds n k).take w)
  | 0, _ => by simp [frs, nws]
  | w + 1, hw => by
    have hw' : w < n ^ k := by omega
    have ih := frs_wds hp hk w (by omega)
    rw [wds_take n k w hw', nws_app]
    by_cases h : IsNw h1 h2 (dig n k w)
    · rw [if_pos h, frs_new, ih]
      rw [ih]
      exact fun h3 => (nws_met hp hk hw').1 h3 h
    · rw [if_neg h, frs_old, ih, List.append_nil]
      rw [ih]
      exact (nws_met hp hk hw').2 h
theorem frs_all (hp : PB n h1 h2 b1 b2) {k : Nat} (hk : k ≤ 12) : frs h1 h2 (wds n k) = nws h1 h2 (wds n k) := by
  have h := frs_wds hp hk (n ^ k) (Nat.le_refl _)
  rwa [List.take_of_length_le (by rw [wds_len]; exact Nat.le_refl _)] at h
end
end Go.Proofs.Ythnkhljgealjdaa
namespace Go.Proofs.Ythnkhljgealjdaa
open Go Go.RowKit
open Classical
set_option maxHeartbeats 4000000
theorem StepL.set {L : Nat} {W W' : World} (h : StepL L W W') (i : Nat) (v : Value) : StepL L W (W'.setCell ⟨L, i, none⟩ v) :=
  ⟨h.os, h.tape, h.output, by have := h.size; simpa [World.setCell] using this, fun b hb hn => (Below.heap_setCell W' ⟨L, i, none⟩ v b hn).trans (h.same b hb hn)⟩
theorem LstV.step {ts t : TypeId} {B : Nat} {w w' : World} {v : Value} {rows : List (List Int)} {vals : List Value} (h : LstV ts t B w v rows vals) (hs : w.heap.size ≤ w'.heap.size) (he : ∀ b, B ≤ b → b < w.heap.size → w'.heap[b]? = w.heap[b]?) : LstV ts t B w' v rows vals := by
  refine ⟨⟨h.own.1, ?_⟩, fun i hi => ?_, h.ne⟩
  · rcases h.own.2 with h2 | ⟨g, cap, cur, hv, hg, hh, r⟩
    · exact .inl h2
    · exact .inr ⟨g, cap, cur, hv, hg, (he g hg (Array.getElem?_eq_some_iff.1 hh).1).trans hh, r⟩
  · obtain ⟨A, c, h1, h2⟩ := h.row i hi
    refine ⟨A, c, h1, ?_⟩
    rcases h2 with h2 | ⟨g, e1, e2, e3, e4⟩
    · exact .inl h2
    · exact .inr ⟨g, e1, e2, by omega, e4.of_block (he g e2 e3)⟩
theorem LstV.lo {ts t : TypeId} {B g c N : Nat} {w : World} {rows : List (List Int)} {vals : List Value} (h : LstV ts t B w (.slice (some ⟨g, 0, none⟩) N c) rows vals) : B ≤ g := by
  rcases h.own.2 with ⟨hv, _⟩ | ⟨g', cap, cur, hv, hg, _⟩
  · cases hv
  · injection hv with hv
    injection hv with hv
    injection hv with hv
    omega
theorem LstV.at {ts t : TypeId} {B g c N : Nat} {w : World} {rows : List (List Int)} {vals : List Value} (h : LstV ts t B w (.slice (some ⟨g, 0, none⟩) N c) rows vals) {i : Nat} (hi : i < rows.length) : ∃ A ci, w.cell? ⟨g, i, none⟩ = some (.slice A (rows.getD i []).length ci) ∧ Rd w A (rows.getD i []) := by
  obtain ⟨A, ci, h1, h2⟩ := h.row i hi
  obtain ⟨g', c', hv, _, hc⟩ := own_look h.own (by omega)
  injection hv with hv
  injection hv with hv
  injection hv with hv
  subst hv
  exact ⟨A, ci, hc i _ h1, h2.rd⟩
theorem nws_next {h1 h2 : Nat → Nat → Int} {n K j : Nat} (hj : j < n ^ K) : nws h1 h2 ((wds n K).take (j + 1)) = nws h1 h2 ((wds n K).take j) ++ (if IsNw h1 h2 (dig n K j) then [dig n K j] else []) := by
  rw [wds_take n K j hj, nws_app]
theorem wrap64_sm (n : Int) (h : -9223372036854775808 ≤ n ∧ n ≤ 9223372036854775807) : wrap64 n = n := by unfold wrap64; omega
theorem rep_set (m : Nat) (tl : List Int) (x : Int) : (List.replicate (m + 1) 0 ++ tl).set m x = List.replicate m 0 ++ x :: tl := by
  rw [List.set_append_left _ _ (by simp), List.replicate_succ', List.set_append_right _ _ (by simp)]
  simp
theorem wds_pre {n k : Nat} {p : List Int} (hp : p ∈ wds n k) {i : Nat} (hi : i ≤ k) : p.take i ∈ wds n i := by
  obtain ⟨h1, h2⟩ := (wds_mem k p).1 hp
  exact (wds_mem i _).2 ⟨by rw [List.length_take]; omega, fun v hv => h2 v (List.mem_of_mem_take hv)⟩
end Go.Proofs.Ythnkhljgealjdaa
namespace Go.Proofs.Ythnkhljgealjdaa
open Go Go.RowKit
open Classical
set_option maxHeartbeats 8000000
/-- All words of a list with one letter more. -/
def extL (n : Nat) (L : List (List Int)) : List (List Int) := L.flatMap fun t => (List.range n).map fun x : Nat => t ++ [(x : Int)]
theorem extL_wds (n k : Nat) : wds n (k + 1) = extL n (wds n k) := rfl
theorem extL_app (n : Nat) (L : List (List Int)) (t : List Int) : extL n (L ++ [t]) = extL n L ++ (List.range n).map fun x : Nat => t ++ [(x : Int)] := by simp [extL]
theorem TupS.far {w : World} {B : Nat} {v : Value} {L : List (List Int)} (h : TupS w B v L) {p : Addr} (hp : ∀ g, v.ownBlock = some g → g ≠ p.block) (u : Value) : TupS (w.setCell p u) B v L := by
  obtain ⟨hl, h⟩ := h
  refine ⟨hl, ?_⟩
  rcases h with h | ⟨g, cap, cur, hv, hb2, hh, rest⟩
  · exact .inl h
  · exact .inr ⟨g, cap, cur, hv, hb2, (Below.heap_setCell w p u g (hp g (by rw [hv]; rfl))).trans hh, rest⟩
theorem TupS.monoB {w : World} {B B' : Nat} {v : Value} {L : List (List Int)} (h : TupS w B v L) (hB : B' ≤ B) : TupS w B' v L := by
  obtain ⟨hl, h⟩ := h
  refine ⟨hl, ?_⟩
  rcases h with h | ⟨g, cap, cur, hv, hb2, rest⟩
  · exact .inl h
  · exact .inr ⟨g, cap, cur, hv, by omega, rest⟩
theorem pad12_snoc {t : List Int} {j : Nat} (ht : t.length = j) (hj : j < 12) (y x : Int) : ((pad12 t).set j y).set j x = pad12 (t ++ [x]) := by
  subst ht
  unfold pad12
  rw [List.set_set, List.set_append_right _ _ (by omega), Nat.sub_self]
  have e : 12 - t.length = (12 - (t ++ [x]).length) + 1 := by simp; omega
  rw [e, List.replicate_succ]
  simp
theorem pad12_set0 (t : List Int) (j : Nat) : ∃ y, (pad12 t).set j y = pad12 t := ⟨(pad12 t).getD j 0, by
  by_cases h : j < (pad12 t).length
  · simp [h]
  · exact List.set_eq_of_length_le (by omega)⟩
/-- What tuplesOf returns. -/
def TupP (n K : Nat) (w : World) (e : Ending) (w' : World) : Prop := (n ^ K ≤ 5000 ∧ ∃ v, e = .returned (.tuple #[v, .bool true]) ∧ Below w.heap.size w w' ∧ TupS w' w.heap.size v (wds n K)) ∨ (5000 < n ^ K ∧ e = .returned (.tuple #[.slice none 0 0, .bool false]) ∧ Below w.heap.size w w')
end Go.Proofs.Ythnkhljgealjdaa
