import Derived.Test.YtelildgngkajnaaZab
import Derived.Test.YtelildgngkajnaaZs
import Derived.Test.YtelildgngkajnaaZn
import Derived.Test.YtelildgngkajnaaZi
import Derived.Shelf.Abstract
import Derived.Shelf.Lay
import Derived.Deep.Cut
import Derived.Deep.RegionHeld3
namespace Go.Proofs.Ytelildgngkajnaa
open Go Go.RowKit
set_option maxHeartbeats 4000000

set_option maxRecDepth 100000 in
theorem idxM_any (g N c j : Nat) (a : Nat → Nat) (β : Nat → Bool) (w : World) (hN : N ≤ 1000) (hj : j < N) (hne : ∀ i, i < j → a i ≠ a j ∨ β i ≠ β j) (hp : PrsAt w g N (fun i => .int .i64 (a i : Nat)) (fun i => .bool (β i))) :
    Calls Try.prog 136 #[.slice (some ⟨g, 0, none⟩) N c, .agg #[.int .i64 (a j : Nat), .bool (β j)]] w fun e w' => e = .returned (.int .i64 j) ∧ Below w.heap.size w w' := by
  have HP := hide hp
  have HNE := hide hne
  obtain ⟨aj, haj⟩ : ∃ u, a j = u := ⟨_, rfl⟩
  obtain ⟨βj, hβj⟩ : ∃ u, β j = u := ⟨_, rfl⟩
  rw [haj, hβj]
  have HAJ := hide haj
  have HBJ := hide hβj
  have HB0 := hide ((Below.refl _ w).alloc (Nat.le_refl _) (Obj.cells #[Value.int IntKind.i64 (aj : Nat), .bool βj] 114))
  have HK0 := hide (Blk.new w 114 [.int .i64 (aj : Nat), .bool βj])
  clear hp hne haj hβj
  go_enter Try.func136, Try.ntmps136
  go_wp2_with fail
  go_loopw [8] (fun i wr => ∃ k : Nat, k ≤ j ∧ i = .int .i64 k ∧ Below w.heap.size w wr ∧ Blk wr w.heap.size 114 [.int .i64 (aj : Nat), .bool βj]) (fun i _ => N - (intOf i).toNat)
  case atStart => exact ⟨0, Nat.zero_le _, rfl, HB0.out, HK0.out⟩
  case round =>
    obtain ⟨k, hk, rfl, hbe, hkk⟩ := hrel
    have HB := hide hbe
    have HK := hide hkk
    clear hbe hkk
    have hkz : (k : Int) < N := by omega
    have k0 := HK.out.cell 0 _ rfl
    have k1 := HK.out.cell 1 _ rfl
    obtain ⟨f0, f1⟩ := HP.out.2 k (by omega)
    replace f0 := (HB.out.cell (p := ⟨g, k * 2, none⟩) HP.out.1).trans f0
    replace f1 := (HB.out.cell (p := ⟨g, k * 2 + 1, none⟩) HP.out.1).trans f1
    obtain ⟨ak, hak⟩ : ∃ u, a k = u := ⟨_, rfl⟩
    obtain ⟨βk, hβk⟩ : ∃ u, β k = u := ⟨_, rfl⟩
    simp only [hak, hβk] at f0 f1
    have HAK := hide hak
    have HBK := hide hβk
    clear hak hβk
    by_cases h1 : ak = aj ∧ βk = βj
    · obtain ⟨h1a, h1b⟩ := h1
      have hkj : k = j := by
        by_cases e : k = j
        · exact e
        · exfalso
          rcases HNE.out k (by omega) with h | h
          · exact h (by rw [HAK.out, HAJ.out]; exact h1a)
          · exact h (by rw [HBK.out, HBJ.out]; exact h1b)
      subst hkj
      subst h1a
      subst h1b
      go_wp2_with fail
      go_quiet (fail)
      go_wp2_with fail
      go_ret
      exact ⟨rfl, bdrewN HB.out _⟩
    · have HNK : Hid (k < j) := hide (by
        by_cases e : k = j
        · subst e
          exact absurd ⟨HAK.out.symm.trans HAJ.out, HBK.out.symm.trans HBJ.out⟩ h1
        · omega)
      have hkj := HNK.out
      by_cases h2 : ak = aj
      · have h3 : βk ≠ βj := fun h => h1 ⟨h2, h⟩
        subst h2
        have g3 : (βj == βk) = false := by cases βj <;> cases βk <;> simp_all
        clear h1 h3
        go_wp2_with fail
        go_quiet (fail)
        go_wp2_with fail
        go_roundw
        case rel => exact ⟨k + 1, by omega, by go_num, bdrewN HB.out _, HK.out.drewN _⟩
        case measure => simp [intOf]; omega
      · have g2 : ((aj : Int) == (ak : Int)) = false := by simpa using fun h => h2 (by omega)
        clear h1 h2
        go_wp2_with fail
        go_quiet (fail)
        go_wp2_with fail
        go_roundw
        case rel => exact ⟨k + 1, by omega, by go_num, bdrewN HB.out _, HK.out.drewN _⟩
        case measure => simp [intOf]; omega

set_option maxRecDepth 100000 in
theorem grpCM_any (F : FuncId) (lb : Array Value) (g N c b : Nat) (a : Nat → Nat) (β : Nat → Bool) (h : Nat → Nat → Nat) (w : World) (eg : ∀ args w, (callFunc F args).run Try.prog w = .ok (.enter F args) w) (hN : N ≤ 1000) (hh : ∀ i k, i < N → k < N → h i k < N) (hne : ∀ i j, j < N → i < j → a i ≠ a j ∨ β i ≠ β j) (hp : PrsAt w g N (fun i => .int .i64 (a i : Nat)) (fun i => .bool (β i))) (hm : MulFn Try.prog F lb N (fun i => .int .i64 (a i : Nat)) (fun i => .bool (β i)) h w) (hk : Blk w b 110 [.slice (some ⟨g, 0, none⟩) N c, .func (.func F) #[] lb]) :
    CellFn Try.prog 135 #[.pointer (some ⟨b, 0, none⟩)] N (fun i k => (h i k : Nat)) w := by
  intro W x y hx hy hb
  have HK := hide (hk.later hb)
  have HP := hide (hp.later hb)
  have HM := hide (hm.later hb)
  have HNE := hide hne
  have heg := hide eg
  have hun := hh x y hx hy
  show Calls Try.prog 135 #[.int .i64 x, .int .i64 y, .pointer (some ⟨b, 0, none⟩)] W fun e w' => e = .returned (.int .i64 (h x y : Nat)) ∧ _
  clear hk hp hm hne hb eg hh
  obtain ⟨u, hu⟩ : ∃ u, h x y = u := ⟨_, rfl⟩
  rw [hu] at hun ⊢
  have HU := hide hu
  have hxz : (x : Int) < N := by omega
  have hyz : (y : Int) < N := by omega
  have HBc := hide (Below.refl W.heap.size W)
  obtain ⟨f0, f1⟩ := HP.out.2 x hx
  obtain ⟨f2, f3⟩ := HP.out.2 y hy
  obtain ⟨ax, hax⟩ : ∃ u, a x = u := ⟨_, rfl⟩
  obtain ⟨βx, hβx⟩ : ∃ u, β x = u := ⟨_, rfl⟩
  obtain ⟨ay, hay⟩ : ∃ u, a y = u := ⟨_, rfl⟩
  obtain ⟨βy, hβy⟩ : ∃ u, β y = u := ⟨_, rfl⟩
  have HX := hide (And.intro hax hβx)
  have HY := hide (And.intro hay hβy)
  simp only [hax, hβx, hay, hβy] at f0 f1 f2 f3
  clear hu hax hβx hay hβy
  have k0 := HK.out.cell 0 _ rfl
  have k1 := HK.out.cell 1 _ rfl
  have hegF := fun args => heg.out args
  go_enter Try.func135, Try.ntmps135
  go_wp2_with fail
  go_region_held3 (fun w' => w'.cell? ⟨b, 0, none⟩ = some (.slice (some ⟨g, 0, none⟩) N c) ∧ w'.cell? ⟨b, 1, none⟩ = some (.func (.func F) #[] lb) ∧ w'.cell? ⟨g, x * 2, none⟩ = some (.int .i64 (ax : Nat)) ∧ w'.cell? ⟨g, x * 2 + 1, none⟩ = some (.bool βx) ∧ w'.cell? ⟨g, y * 2, none⟩ = some (.int .i64 (ay : Nat)) ∧ w'.cell? ⟨g, y * 2 + 1, none⟩ = some (.bool βy)) (first | exact ⟨k0, k1, f0, f1, f2, f3⟩ | go_keep) (first | (go_at_fn F; go_must (refine calls_gen fun wc hwc => ?_; (first | have hbx := drew_below hwc | have hbx := eq_below hwc); replace HBc := hide (HBc.out.trans (hbx.mono HBc.out.size)); clear hwc hbx; refine (cast (by dsimp only; rw [HX.out.1, HX.out.2, HY.out.1, HY.out.2, HU.out]) (HM.out wc x y hx hy HBc.out) : Calls Try.prog F (#[.agg #[.int .i64 (ax : Nat), .bool βx], .agg #[.int .i64 (ay : Nat), .bool βy]] ++ lb) wc fun e w' => e = .returned (.agg #[.int .i64 (a u : Nat), .bool (β u)]) ∧ Below wc.heap.size wc w').mono ?_; rintro e wd ⟨rfl, hbd⟩; replace HBc := hide (HBc.out.trans (hbd.mono HBc.out.size)); clear hbd; have k0 := (HK.out.later HBc.out).cell 0 _ rfl; have k1 := (HK.out.later HBc.out).cell 1 _ rfl; have f0 : wd.cell? ⟨g, x * 2, none⟩ = some (.int .i64 (ax : Nat)) := (by rw [((HP.out.later HBc.out).2 x hx).1]; dsimp only; rw [HX.out.1]); have f1 : wd.cell? ⟨g, x * 2 + 1, none⟩ = some (.bool βx) := (by rw [((HP.out.later HBc.out).2 x hx).2]; dsimp only; rw [HX.out.2]); have f2 : wd.cell? ⟨g, y * 2, none⟩ = some (.int .i64 (ay : Nat)) := (by rw [((HP.out.later HBc.out).2 y hy).1]; dsimp only; rw [HY.out.1]); have f3 : wd.cell? ⟨g, y * 2 + 1, none⟩ = some (.bool βy) := (by rw [((HP.out.later HBc.out).2 y hy).2]; dsimp only; rw [HY.out.2]))) | (go_at_call 136; go_must (refine calls_gen fun wc hwc => ?_; (first | have hbx := drew_below hwc | have hbx := eq_below hwc); replace HBc := hide (HBc.out.trans (hbx.mono HBc.out.size)); clear hwc hbx; refine (idxM_any g N c u a β wc hN hun (fun i hi => HNE.out i u hun hi) (HP.out.later HBc.out)).mono ?_; rintro e wf ⟨rfl, hbd⟩; replace HBc := hide (HBc.out.trans (hbd.mono HBc.out.size)); clear hbd; have k0 := (HK.out.later HBc.out).cell 0 _ rfl; have k1 := (HK.out.later HBc.out).cell 1 _ rfl; have f0 : wf.cell? ⟨g, x * 2, none⟩ = some (.int .i64 (ax : Nat)) := (by rw [((HP.out.later HBc.out).2 x hx).1]; dsimp only; rw [HX.out.1]); have f1 : wf.cell? ⟨g, x * 2 + 1, none⟩ = some (.bool βx) := (by rw [((HP.out.later HBc.out).2 x hx).2]; dsimp only; rw [HX.out.2]); have f2 : wf.cell? ⟨g, y * 2, none⟩ = some (.int .i64 (ay : Nat)) := (by rw [((HP.out.later HBc.out).2 y hy).1]; dsimp only; rw [HY.out.1]); have f3 : wf.cell? ⟨g, y * 2 + 1, none⟩ = some (.bool βy) := (by rw [((HP.out.later HBc.out).2 y hy).2]; dsimp only; rw [HY.out.2]))))
  all_goals
    clear k0 k1 f0 f1 f2 f3
    go_wp2_with fail
    go_ret
    exact ⟨rfl, HBc.out⟩

set_option maxRecDepth 100000 in
theorem grpM_any (F : FuncId) (lb : Array Value) (g N c : Nat) (a : Nat → Nat) (β : Nat → Bool) (h : Nat → Nat → Nat) (w : World) (eg : ∀ args w, (callFunc F args).run Try.prog w = .ok (.enter F args) w) (h1 : 1 ≤ N) (h12 : N ≤ 12) (hh : ∀ i k, i < N → k < N → h i k < N) (hne : ∀ i j, j < N → i < j → a i ≠ a j ∨ β i ≠ β j) (hp : PrsAt w g N (fun i => .int .i64 (a i : Nat)) (fun i => .bool (β i))) (hm : MulFn Try.prog F lb N (fun i => .int .i64 (a i : Nat)) (fun i => .bool (β i)) h w) :
    Calls Try.prog 102 #[.agg #[.slice (some ⟨g, 0, none⟩) N c, .func (.func F) #[] lb]] w fun e w' => ∃ A' c', e = .returned (.agg #[.slice A' N c']) ∧ Below w.heap.size w w' ∧ Obj2 48 2 w.heap.size w'.heap.size w' A' (grid N (fun i k => (h i k : Nat))) := by
  have HB0 := hide (((Below.refl _ w).alloc (Nat.le_refl _) (Obj.cells #[Value.slice (some ⟨g, 0, none⟩) N c, .func (.func F) #[] lb] 110)).alloc (by simp) (Obj.cells #[.slice none 0 0] 24))
  have HP0 := hide ((Blk.new w 110 [.slice (some ⟨g, 0, none⟩) N c, .func (.func F) #[] lb]).alloc (Obj.cells #[.slice none 0 0] 24))
  have HK0 : Hid (Blk ((w.alloc (Obj.cells #[Value.slice (some ⟨g, 0, none⟩) N c, .func (.func F) #[] lb] 110)).alloc (Obj.cells #[.slice none 0 0] 24)) (w.heap.size + 1) 24 [.slice none 0 0]) := hide (by have h := Blk.new (w.alloc (Obj.cells #[Value.slice (some ⟨g, 0, none⟩) N c, .func (.func F) #[] lb] 110)) 24 [.slice none 0 0]; simpa using h)
  have HPR := hide hp
  have HM := hide hm
  have heg := hide eg
  have HH := hide hh
  have HNE := hide hne
  clear hp hm eg hh hne
  go_enter Try.func102, Try.ntmps102
  have p0 := HP0.out.cell 0 _ rfl
  go_wp2_with fail
  clear p0
  refine (tableOf_any 135 _ N (fun i k => (h i k : Nat)) _ (fun _ _ => rfl) h1 h12 (grpCM_any F lb g N c w.heap.size a β h _ heg.out (by omega) HH.out HNE.out (HPR.out.later HB0.out) (HM.out.later HB0.out) HP0.out)).mono ?_
  rintro e w3 ⟨A3, c3, rfl, hb3, ho3⟩
  have HB3 := hide (HB0.out.trans (hb3.mono HB0.out.size))
  have HK3 := hide (HK0.out.later hb3)
  have HO3 := hide ho3
  have hlow := HK0.out.lt
  clear hb3 ho3
  have k2 := HK3.out.cell 0 _ rfl
  have k3 := HK3.out.frozen 0
  go_wp2_with fail
  refine bp_gen fun wf hwf => ?_
  obtain ⟨q0, hbf, hof⟩ := kend hwf HK3.out (by omega) HB3.out HO3.out (by omega) hlow (Nat.le_refl _)
  clear hwf k2 k3
  exact bodyPost_ret (v := .agg #[.slice A3 N c3]) (by simp [results, Try.results102, go_sem, q0]) rfl ⟨_, _, rfl, hbf, hof⟩
end Go.Proofs.Ytelildgngkajnaa
