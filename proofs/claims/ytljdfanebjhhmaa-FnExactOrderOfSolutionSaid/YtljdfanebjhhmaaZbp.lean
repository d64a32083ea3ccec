import Derived.Test.YtljdfanebjhhmaaProg
import Derived.Test.YtljdfanebjhhmaaZa
import Derived.Test.YtljdfanebjhhmaaZn
import Derived.Test.YtljdfanebjhhmaaZj
import Derived.Test.YtljdfanebjhhmaaZg
namespace Go.Proofs.Ytljdfanebjhhmaa
open Go Go.RowKit
set_option maxHeartbeats 1000000

theorem cell_other {w : World} {b o k j : Nat} (h : b ≠ k) (v : Value) : (w.setCell ⟨k, j, none⟩ v).cell? ⟨b, o, none⟩ = w.cell? ⟨b, o, none⟩ :=
  World.cell?_of_block (a := ⟨b, o, none⟩) (Below.heap_setCell w ⟨k, j, none⟩ v b h)

theorem lead_any (A : Option Addr) (n c : Nat) (f : List (List Int)) (B : Option Addr) (m d : Nat) (s : List (List Int)) (x y : Nat) (w : World) (hz : ZArg 1048576 w A n f B m s) (hp : PMap f s) (hx : x < n) (hy : y < n) :
    Calls Try.prog 73 #[.agg #[.slice A n c, .slice B m d], .agg #[.int .i64 x, .int .i64 y]] w fun e w' => e = .returned (.agg #[.int .i64 (ap f x y : Nat), .int .i64 (ap s x y : Nat)]) ∧ Below w.heap.size w w' := by
  obtain ⟨b, o, rfl, hb, hc⟩ := hp.1.cells hz.fst hz.sz.fl
  have hm : s.length = n := by rw [← hp.2.2]; exact hz.sz.fl
  obtain ⟨b2, o2, rfl, hb2, hc2⟩ := hp.2.1.cells hz.snd hm
  obtain ⟨bx, ox, cx, h1, h2, h3⟩ := hc x hx
  obtain ⟨by', oy, cy, h4, h5, h6⟩ := hc2 x hx
  have h7 := h3 y hy
  have h8 := h6 y hy
  have hmn : m = n := by rw [← hz.sz.sl]; exact hm
  subst hmn
  have hnb := hz.sz.nb
  obtain ⟨u, hu⟩ : ∃ u, ap f x y = u := ⟨_, rfl⟩
  obtain ⟨v, hv⟩ : ∃ v, ap s x y = v := ⟨_, rfl⟩
  rw [hu] at h7 ⊢
  rw [hv] at h8 ⊢
  have H1 := hide h1
  have H4 := hide h4
  have H7 := hide h7
  have H8 := hide h8
  clear h1 h3 h4 h6 h7 h8 hc hc2 hu hv hm hz hp
  go_enter Try.func73, Try.ntmps73
  go_wp2_with fail
  refine wp_gen fun w1 hw1 => ?_
  have hbb : Below w.heap.size w w1 := by rw [hw1]; exact (((Below.refl _ _).alloc (Nat.le_refl _) _).alloc (by simp) _).alloc (by simp; omega) _
  have HBB := hide hbb
  have hk0 : Blk w1 w.heap.size 46 [.slice (some ⟨b, o, none⟩) m c, .slice (some ⟨b2, o2, none⟩) m d] := by rw [hw1]; exact ((Blk.new _ _ _).alloc _).alloc _
  have hk1 : Blk w1 (w.heap.size + 1) 84 [.int .i64 x, .int .i64 y] := by rw [hw1]; have h := (Blk.new (w.alloc (Obj.cells #[.slice (some ⟨b, o, none⟩) m c, .slice (some ⟨b2, o2, none⟩) m d] 46)) 84 [.int .i64 x, .int .i64 y]).alloc (Obj.cells #[Value.int IntKind.i64 0, Value.int IntKind.i64 0] 84); simpa using h
  have hk2 : Blk w1 (w.heap.size + 1 + 1) 84 [.int .i64 0, .int .i64 0] := by rw [hw1]; have h := (Blk.new ((w.alloc (Obj.cells #[.slice (some ⟨b, o, none⟩) m c, .slice (some ⟨b2, o2, none⟩) m d] 46)).alloc (Obj.cells #[Value.int IntKind.i64 x, Value.int IntKind.i64 y] 84)) 84 [.int .i64 0, .int .i64 0]); simpa using h
  have HK2 := hide hk2
  have a0 := hk0.cell 0 _ rfl
  have a1 := hk0.cell 1 _ rfl
  have a2 := hk1.cell 0 _ rfl
  have a3 := hk1.cell 1 _ rfl
  have a4 : w1.cell? ⟨b, o + x, none⟩ = some (.slice (some ⟨bx, ox, none⟩) m cx) := (hbb.cell (p := ⟨b, o + x, none⟩) hb).trans H1.out
  have a5 : w1.cell? ⟨b2, o2 + x, none⟩ = some (.slice (some ⟨by', oy, none⟩) m cy) := (hbb.cell (p := ⟨b2, o2 + x, none⟩) hb2).trans H4.out
  have a6 : w1.cell? ⟨bx, ox + y, none⟩ = some (.int .i64 u) := (hbb.cell (p := ⟨bx, ox + y, none⟩) h2).trans H7.out
  have a7 : w1.cell? ⟨by', oy + y, none⟩ = some (.int .i64 v) := (hbb.cell (p := ⟨by', oy + y, none⟩) h5).trans H8.out
  have a8 := hk2.cell 0 _ rfl
  have a9 := hk2.cell 1 _ rfl
  have b0 := hk2.frozen 0
  have b1 := hk2.frozen 1
  have hxz : (x : Int) < m := by omega
  have hyz : (y : Int) < m := by omega
  have hxz0 : (0 : Int) ≤ x := by omega
  have hyz0 : (0 : Int) ≤ y := by omega
  have k1 : w.heap.size + 1 + 1 ≠ w.heap.size := by omega
  have k2 : w.heap.size + 1 + 1 ≠ b := by omega
  have k3 : w.heap.size + 1 + 1 ≠ b2 := by omega
  have k4 : w.heap.size + 1 + 1 ≠ bx := by omega
  have k5 : w.heap.size + 1 + 1 ≠ by' := by omega
  have j1 := k1.symm
  have j2 := k2.symm
  have j3 := k3.symm
  have j4 := k4.symm
  have j5 := k5.symm
  clear hw1 hk0 hk1 hk2 hbb hb hb2 h2 h5
  go_region_held3 (fun w' => w'.cell? ⟨w.heap.size, 0, none⟩ = some (.slice (some ⟨b, o, none⟩) m c) ∧ w'.cell? ⟨w.heap.size, 1, none⟩ = some (.slice (some ⟨b2, o2, none⟩) m d) ∧ w'.cell? ⟨w.heap.size + 1, 0, none⟩ = some (.int .i64 x) ∧ w'.cell? ⟨w.heap.size + 1, 1, none⟩ = some (.int .i64 y) ∧ w'.cell? ⟨b, o + x, none⟩ = some (.slice (some ⟨bx, ox, none⟩) m cx) ∧ w'.cell? ⟨b2, o2 + x, none⟩ = some (.slice (some ⟨by', oy, none⟩) m cy) ∧ w'.cell? ⟨bx, ox + y, none⟩ = some (.int .i64 u) ∧ w'.cell? ⟨by', oy + y, none⟩ = some (.int .i64 v)) (first | exact ⟨a0, a1, a2, a3, a4, a5, a6, a7⟩ | go_keep) (first | fail)
  clear k1 k2 k3 k4 k5 j1 j2 j3 j4 j5 a0 a1 a2 a3 a4 a5 a6 a7 a8 a9 b0 b1
  go_wp2_with fail
  refine bp_gen fun wf hwf => ?_
  have HRF : Blk wf (w.heap.size + 1 + 1) 84 [.int .i64 u, .int .i64 v] := by rw [hwf]; exact ((HK2.out.set 0 _).set 1 _).drew
  have HBF : Below w.heap.size w wf := by rw [hwf]; exact ((HBB.out.setCell (by show w.heap.size ≤ w.heap.size + 1 + 1; omega) _).setCell (by show w.heap.size ≤ w.heap.size + 1 + 1; omega) _).drew
  have q0 := HRF.cell 0 _ rfl
  have q1 := HRF.cell 1 _ rfl
  clear hwf
  exact bodyPost_ret (v := .agg #[.int .i64 u, .int .i64 v]) (by simp [results, Try.results73, go_sem, q0, q1]) rfl ⟨rfl, HBF⟩
end Go.Proofs.Ytljdfanebjhhmaa
