import Derived.Test.YtjonojaffdicfaaZh
import Derived.Test.YtjonojaffdicfaaZg
import Derived.Test.YtjonojaffdicfaaZe
import Derived.Test.YtjonojaffdicfaaZf
import Derived.Test.YtjonojaffdicfaaZc
import Derived.Deep.Cut
namespace Go.Proofs.Ytjonojaffdicfaa
open Go Go.RowKit

theorem pair_div (n x y : Nat) (hy : y < n) : (x * n + y) / n = x := by
  rw [Nat.mul_comm, Nat.mul_add_div (by omega), Nat.div_eq_of_lt hy, Nat.add_zero]
theorem pair_mod (n x y : Nat) (hy : y < n) : (x * n + y) % n = y := by
  rw [Nat.mul_comm, Nat.mul_add_mod, Nat.mod_eq_of_lt hy]
theorem pair_lt (n x y : Nat) (hx : x < n) (hy : y < n) : x * n + y < n * n := by
  have h : (x + 1) * n ≤ n * n := Nat.mul_le_mul_right n hx
  rw [Nat.add_mul, Nat.one_mul] at h
  omega
theorem div_lt_sq {n k : Nat} (hk : k < n * n) : k / n < n := Nat.div_lt_of_lt_mul hk
theorem mod_lt_sq {n k : Nat} (hk : k < n * n) : k % n < n := by
  rcases Nat.eq_zero_or_pos n with rfl | h
  · simp at hk
  · exact Nat.mod_lt _ h
theorem pair_eta (n k : Nat) : k / n * n + k % n = k := Nat.div_add_mod' k n
theorem sq_le (n : Nat) (h : n ≤ 12) : n * n ≤ 144 := Nat.mul_le_mul h h
end Go.Proofs.Ytjonojaffdicfaa
namespace Go.Proofs.Ytjonojaffdicfaa
open Go Go.RowKit

/-- The elements reached from x, the steps of the first i of them done. -/
structure OInv (rows : List (List Int)) (n x : Nat) (out : List Int) (i : Nat) : Prop where
  mem : (x : Int) ∈ out
  rng : ∀ v ∈ out, 0 ≤ v ∧ v < (n : Int)
  nd : out.Nodup
  rch : ∀ v ∈ out, Rch rows x v.toNat
  cl : ∀ j, j < i → ∀ r, r < rows.length → (rows.getD r []).getD (out.getD j 0).toNat 0 ∈ out
  le : i ≤ out.length

theorem nodup_le (out : List Int) (n : Nat) (hr : ∀ v ∈ out, 0 ≤ v ∧ v < (n : Int)) (hn : out.Nodup) : out.length ≤ n := by
  obtain ⟨l, hl⟩ := subset_perm out (Go.Proofs.Ytjonojaffdicfaa.rng n) hn (fun a ha => (mem_rng n a).2 (hr a ha))
  have := hl.length_eq
  rw [rng_length, List.length_append] at this
  omega
theorem OInv.most {rows : List (List Int)} {n x : Nat} {out : List Int} {i : Nat} (h : OInv rows n x out i) : out.length ≤ n := nodup_le out n h.rng h.nd
theorem OInv.start (rows : List (List Int)) (n x : Nat) (hx : x < n) : OInv rows n x [(x : Int)] 0 :=
  ⟨by simp, fun v hv => by simp at hv; subst hv; omega, by simp, fun v hv => by simp at hv; subst hv; rw [Int.toNat_natCast]; exact .start, fun j hj => absurd hj (Nat.not_lt_zero _), by simp⟩
theorem OInv.push {rows : List (List Int)} {n x : Nat} {out : List Int} {i r : Nat} (h : OInv rows n x out i) (hi : i < out.length) (hr : r < rows.length) (v : Int) (hv : v = (rows.getD r []).getD (out.getD i 0).toNat 0) (h0 : 0 ≤ v) (hn : v < (n : Int)) (hno : v ∉ out) : OInv rows n x (out ++ [v]) i := by
  refine ⟨by simp [h.mem], fun u hu => ?_, ?_, fun u hu => ?_, fun j hj s hs => ?_, by have := h.le; simp; omega⟩
  · rcases List.mem_append.1 hu with hu | hu
    · exact h.rng u hu
    · simp at hu; subst hu; exact ⟨h0, hn⟩
  · rw [List.nodup_append]
    exact ⟨h.nd, by simp, fun a ha b hb e => hno (by simp at hb; subst hb; subst e; exact ha)⟩
  · rcases List.mem_append.1 hu with hu | hu
    · exact h.rch u hu
    · simp at hu
      have hm : out.getD i 0 ∈ out := by simp [hi]
      subst hu
      exact .step (h.rch _ hm) ⟨r, hr, by rw [hv]⟩
  · have e : (out ++ [v]).getD j 0 = out.getD j 0 := by
      have : j < out.length := by omega
      simp [List.getElem?_append, this]
    rw [e]
    exact List.mem_append_left _ (h.cl j hj s hs)
theorem OInv.on {rows : List (List Int)} {n x : Nat} {out : List Int} {i : Nat} (h : OInv rows n x out i) (hi : i < out.length) (hr : ∀ r, r < rows.length → (rows.getD r []).getD (out.getD i 0).toNat 0 ∈ out) : OInv rows n x out (i + 1) :=
  ⟨h.mem, h.rng, h.nd, h.rch, fun j hj r hrr => by
    by_cases e : j = i
    · subst e; exact hr r hrr
    · exact h.cl j (by omega) r hrr, by omega⟩
theorem OInv.done {rows : List (List Int)} {n x : Nat} {out : List Int} (h : OInv rows n x out out.length) (y : Nat) : (y : Int) ∈ out ↔ Rch rows x y := by
  constructor
  · intro hy
    have := h.rch _ hy
    rwa [Int.toNat_natCast] at this
  · intro hy
    induction hy with
    | start => exact h.mem
    | step _ hs ih =>
      obtain ⟨r, hr, hz⟩ := hs
      obtain ⟨j, hj, hjy⟩ := List.getElem_of_mem ih
      have e : out.getD j 0 = out[j] := by simp [hj]
      have hc := h.cl j hj r hr
      rw [e, hjy, Int.toNat_natCast] at hc
      have h0 := (h.rng _ hc).1
      rw [← hz, Int.toNat_of_nonneg h0]
      exact hc
end Go.Proofs.Ytjonojaffdicfaa
namespace Go.Proofs.Ytjonojaffdicfaa
open Go Go.RowKit

/-- The cells that are read at two elements of both tables of a pair map. -/
theorem ZArg.reads {K : Nat} {w : World} {A : Option Addr} {n : Nat} {f : List (List Int)} {B : Option Addr} {m : Nat} {s : List (List Int)} (hz : ZArg K w A n f B m s) (hp : PMap f s) {x y : Nat} (hx : x < n) (hy : y < n) :
    ∃ b o b2 o2 bx ox cx by' oy cy, A = some ⟨b, o, none⟩ ∧ B = some ⟨b2, o2, none⟩ ∧ w.cell? ⟨b, o + x, none⟩ = some (.slice (some ⟨bx, ox, none⟩) n cx) ∧ w.cell? ⟨b2, o2 + x, none⟩ = some (.slice (some ⟨by', oy, none⟩) n cy) ∧
      w.cell? ⟨bx, ox + y, none⟩ = some (.int .i64 (ap f x y : Nat)) ∧ w.cell? ⟨by', oy + y, none⟩ = some (.int .i64 (ap s x y : Nat)) ∧ b < w.heap.size ∧ b2 < w.heap.size ∧ bx < w.heap.size ∧ by' < w.heap.size := by
  obtain ⟨b, o, rfl, hb, hc⟩ := hp.1.cells hz.fst hz.sz.fl
  have hm : s.length = n := by rw [← hp.2.2]; exact hz.sz.fl
  obtain ⟨b2, o2, rfl, hb2, hc2⟩ := hp.2.1.cells hz.snd hm
  obtain ⟨bx, ox, cx, h1, h2, h3⟩ := hc x hx
  obtain ⟨by', oy, cy, h4, h5, h6⟩ := hc2 x hx
  exact ⟨b, o, b2, o2, bx, ox, cx, by', oy, cy, rfl, rfl, h1, h4, h3 y hy, h6 y hy, hb, hb2, h2, h5⟩
theorem ZArg.same {K : Nat} {w : World} {A : Option Addr} {n : Nat} {f : List (List Int)} {B : Option Addr} {m : Nat} {s : List (List Int)} (hz : ZArg K w A n f B m s) (hp : PMap f s) : m = n := by
  rw [← hz.sz.sl, ← hp.2.2]; exact hz.sz.fl
theorem ZArg.small {K : Nat} {w : World} {A : Option Addr} {n : Nat} {f : List (List Int)} {B : Option Addr} {m : Nat} {s : List (List Int)} (hz : ZArg K w A n f B m s) (hp : PMap f s) : 1 ≤ n ∧ n ≤ 12 := by
  have h1 := hp.1.1
  have h2 := hp.1.2.1
  have h3 := hz.sz.fl
  omega
theorem PMap.lt1 {f s : List (List Int)} (hp : PMap f s) {n x y : Nat} (hn : f.length = n) (hx : x < n) (hy : y < n) : ap f x y < n := hp.1.ap_lt hn hx hy
theorem PMap.lt2 {f s : List (List Int)} (hp : PMap f s) {n x y : Nat} (hn : f.length = n) (hx : x < n) (hy : y < n) : ap s x y < n := hp.2.1.ap_lt (by rw [← hp.2.2]; exact hn) hx hy
end Go.Proofs.Ytjonojaffdicfaa
namespace Go.Proofs.Ytjonojaffdicfaa
open Go Go.RowKit
set_option maxHeartbeats 4000000
theorem half (lo hi : Nat) : ((lo : Int) + (hi : Int)).tdiv 2 = (((lo + hi) / 2 : Nat) : Int) := by
  rw [Int.tdiv_eq_ediv_of_nonneg (by omega)]; omega
set_option maxRecDepth 100000 in
theorem search_any (A B : Option Addr) (m c n d : Nat) (l : List (List Int)) (p : List Int) (w : World) (hm : l.length = m) (hmb : m ≤ 1048576) (hll : ∀ i, i < l.length → (l.getD i []).length = n) (hp : p.length = n) (hn : n ≤ 12) (hasc : Asc l) (hr : Rd2 w A l) (hrp : Rd w B p) :
    Calls Try.prog 47 #[.slice A m c, .slice B n d] w fun e w' => ∃ k : Nat, e = .returned (.int .i64 k) ∧ Plc l p k k ∧ Quiet w w' := by
  have HM := hide hm
  have HLL := hide hll
  have HP := hide hp
  have HA := hide hasc
  have HR := hide hr
  have HRP := hide hrp
  clear hm hll hp hasc hr hrp
  go_enter Try.func47, Try.ntmps47
  go_wp2_with fail
  go_loopw [5, 6] (fun v i wr => ∃ lo hi : Nat, v = .int .i64 lo ∧ i = .int .i64 hi ∧ Plc l p lo hi ∧ Quiet w wr) (fun v i _ => (intOf i).toNat - (intOf v).toNat)
  case atStart => exact ⟨0, m, rfl, rfl, by have h := Plc.start l p; rw [HM.out] at h; exact h, Quiet.refl w⟩
  case round =>
    obtain ⟨lo, hi, rfl, rfl, hpl, hq⟩ := hrel
    have hle := hpl.le
    have htop := hpl.top
    rw [HM.out] at htop
    have HPLC := hide hpl
    have HQ := hide hq
    clear hpl hq
    by_cases hlt : lo < hi
    · have hltz : (lo : Int) < hi := by omega
      obtain ⟨mid, hmid⟩ : ∃ mid, (lo + hi) / 2 = mid := ⟨_, rfl⟩
      have hhalf := half lo hi
      rw [hmid] at hhalf
      have hm1 : lo ≤ mid := by omega
      have hm2 : mid < hi := by omega
      have HMID := hide hmid
      clear hmid
      have hmidz : (mid : Int) < m := by omega
      obtain ⟨bA, oA, rfl, hbA, hcA⟩ := (HQ.out.rd2 HR.out) (by rw [HM.out]; omega)
      obtain ⟨Am, cm, hcm, hrm⟩ := hcA mid (by rw [HM.out]; omega)
      rw [HLL.out mid (by rw [HM.out]; omega)] at hcm
      have HRM := hide hrm
      clear hrm hcA
      go_wp2_with fail
      refine (less_any Am B n cm d (l.getD mid []) p _ (HLL.out mid (by rw [HM.out]; omega)) HP.out (by omega) HRM.out (HQ.out.rd HRP.out)).mono ?_
      rintro e w2 ⟨rfl, hq2⟩
      have HQ2 := hide (HQ.out.trans hq2)
      clear hq2
      cases hls : lessL (l.getD mid []) p with
      | true =>
        have HLS := hide hls
        clear hls
        go_wp2_with fail
        go_roundw
        case rel => exact ⟨mid + 1, hi, by go_num, rfl, HPLC.out.up HA.out ⟨hm1, hm2⟩ HLS.out, HQ2.out⟩
        case measure => simp [intOf]; omega
      | false =>
        have HLS := hide hls
        clear hls
        go_wp2_with fail
        go_roundw
        case rel => exact ⟨lo, mid, rfl, rfl, HPLC.out.down HA.out ⟨hm1, hm2⟩ HLS.out, HQ2.out⟩
        case measure => simp [intOf]; omega
    · have hee : lo = hi := by omega
      subst hee
      go_wp2_with fail
      go_ret
      exact ⟨lo, rfl, HPLC.out, HQ.out⟩
end Go.Proofs.Ytjonojaffdicfaa
