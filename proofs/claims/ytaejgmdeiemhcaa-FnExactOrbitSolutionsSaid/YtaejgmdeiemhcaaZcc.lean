import Derived.Test.YtaejgmdeiemhcaaZca
import Derived.Test.YtaejgmdeiemhcaaZcb
import Derived.Test.YtaejgmdeiemhcaaZbt
namespace Go.Proofs.Ytaejgmdeiemhcaa
open Go Go.RowKit
set_option maxHeartbeats 1000000
/-- A list of solutions in memory of its own, its blocks from lo to hi. -/
def ObjQ (ts t tq : TypeId) (lo hi : Nat) (w : World) (A : Option Addr) (zs : List SolV) : Prop :=
  (A = none ∧ zs = []) ∨ ∃ g R S C D p, A = some ⟨g, 0, none⟩ ∧ lo ≤ g ∧ QW ts t tq w g R S C D p zs ∧ p zs.length ≤ hi
/-- A list of solutions that was there before hi. -/
def ObjQr (hi : Nat) (w : World) (A : Option Addr) (zs : List SolV) : Prop := ∃ w0, RdQ w0 A zs ∧ w0.heap.size ≤ hi ∧ Below w0.heap.size w0 w
section
variable {ts t tq : TypeId} {lo hi : Nat} {w w' : World} {A : Option Addr} {zs : List SolV}
theorem ObjQr.rd (h : ObjQr hi w A zs) : RdQ w A zs := by
  obtain ⟨w0, h1, _, h3⟩ := h
  exact h1.later h3
theorem ObjQr.later (h : ObjQr hi w A zs) (hb : Below w.heap.size w w') : ObjQr hi w' A zs := by
  obtain ⟨w0, h1, h2, h3⟩ := h
  exact ⟨w0, h1, h2, h3.trans (hb.mono h3.size)⟩
theorem ObjQr.far {lo2 hi2 : Nat} (h : ObjQr hi w A zs) (ht : Touch lo2 hi2 w w') (hd : hi ≤ lo2 ∨ False) : ObjQr hi w' A zs := by
  obtain ⟨w0, h1, h2, h3⟩ := h
  exact ⟨w0, h1, h2, Touch.below h3 ht h3.size (Nat.le_trans h2 (hd.elim id False.elim))⟩
theorem ObjQ.rd (h : ObjQ ts t tq lo hi w A zs) : RdQ w A zs := by
  rcases h with ⟨_, rfl⟩ | ⟨g, R, S, C, D, p, rfl, _, h2, _⟩
  · exact fun h => absurd h (Nat.not_lt_zero _)
  · exact h2.rd
theorem ObjQ.later (h : ObjQ ts t tq lo hi w A zs) (hb : Below w.heap.size w w') : ObjQ ts t tq lo hi w' A zs := by
  rcases h with h | ⟨g, R, S, C, D, p, e, h1, h2, h3⟩
  · exact .inl h
  · exact .inr ⟨g, R, S, C, D, p, e, h1, h2.later hb, h3⟩
theorem ObjQ.far {lo2 hi2 : Nat} (h : ObjQ ts t tq lo hi w A zs) (ht : Touch lo2 hi2 w w') (hd : hi ≤ lo2 ∨ hi2 ≤ lo) : ObjQ ts t tq lo hi w' A zs := by
  rcases h with h | ⟨g, R, S, C, D, p, e, h1, h2, h3⟩
  · exact .inl h
  · exact .inr ⟨g, R, S, C, D, p, e, h1, h2.far ht (by omega), h3⟩
end
theorem tQ_nil (k : Int) : mTo k [] 0 = [] := rfl
set_option maxRecDepth 100000 in
theorem markQ0 (c : Nat) (k : Int) (w : World) (_hk : 0 ≤ k) : Calls Try.prog 50 #[.slice none 0 c, .int .i64 k] w fun e w' => e = .returned (.int .i64 k) ∧ Quiet w w' := by
  go_enter Try.func50, Try.ntmps50
  go_wp2_with fail
  go_loopw [1, 5] (fun u v wr => u = .int .i64 k ∧ v = .int .i64 0 ∧ Quiet w wr) (fun _ _ _ => 0)
  case atStart => exact ⟨rfl, rfl, Quiet.refl _⟩
  case round =>
    obtain ⟨rfl, rfl, hq⟩ := hrel
    have HQ := hide hq
    clear hq
    go_wp2_with fail
    go_ret
    exact ⟨rfl, HQ.out⟩
theorem markQL (ts t tq : TypeId) (hne : ts ≠ t) (lo hi : Nat) (A : Option Addr) (n c : Nat) (k : Int) (zs : List SolV) (TQ : Nat) (w : World) (hn : zs.length = n) (hs : QSz zs) (htq : tQ zs n = TQ) (hk : 0 ≤ k) (hk2 : k ≤ 1152921504606846976) (hq : ObjQ ts t tq lo hi w A zs) (hhi : hi ≤ w.heap.size) :
    Calls Try.prog 50 #[.slice A n c, .int .i64 k] w fun e w' => e = .returned (.int .i64 (k + (TQ : Int))) ∧ Touch lo hi w w' ∧ ObjQ ts t tq lo hi w' A (mTo k zs n) := by
  subst htq
  subst hn
  rcases hq with ⟨rfl, rfl⟩ | ⟨g, R, S, C, D, p, rfl, h1, h2, h3⟩
  · exact (markQ0 c k w hk).mono fun _ _ ⟨he, hqq⟩ => ⟨by rw [he]; simp [tQ], Touch.quiet hqq, .inl ⟨rfl, rfl⟩⟩
  · exact (markQ_any ts t tq hne g R S C D p _ c k zs w rfl hs hk hk2 h2 (Nat.le_trans h3 hhi)).mono fun _ _ ⟨he, ht, hq⟩ => ⟨he, ht.wide (by have := h2.low; omega) h3, .inr ⟨g, R, S, C, D, p, rfl, h1, hq, by rw [mTo_length]; exact h3⟩⟩
theorem heldQL (A : Option Addr) (n c : Nat) (k : Int) (zs : List SolV) (TQ : Nat) (w : World) (hn : zs.length = n) (hs : QSz zs) (htq : tQ zs n = TQ) (hk : 0 ≤ k) (hk2 : k ≤ 1152921504606846976) (ha : RdQ w A (mTo k zs n)) :
    Calls Try.prog 51 #[.slice A n c, .int .i64 k] w fun e w' => e = .returned (.int .i64 (k + (TQ : Int))) ∧ Below w.heap.size w w' := by
  subst htq
  exact heldQ_any A n c k zs w hn hs hk hk2 ha
theorem oslI (A : Option Addr) (n c : Nat) (f : List (List Int)) (B : Option Addr) (m d : Nat) (s : List (List Int)) (zs : List SolV) (code : Int) (kz : Nat) (w : World) (hz : ZArg 1048576 w A n f B m s) (hr : OsoRes f s zs code) (hk : zs.length = kz) :
    Calls Try.prog 48 #[.agg #[.slice A n c, .slice B m d]] w fun e w' => ∃ A' c', e = .returned (.tuple #[.slice A' kz c', .int .i64 code]) ∧ Below w.heap.size w w' ∧ ObjQ 37 2 28 w.heap.size w'.heap.size w' A' zs := by
  subst hk
  exact (osoI A n c f B m d s zs code _ w hz hr rfl).mono fun _ _ ⟨A', c', h1, h2, h3⟩ => ⟨A', c', h1, h2, h3⟩
theorem oslS (A : Option Addr) (n c : Nat) (f : List (List Int)) (B : Option Addr) (m d : Nat) (s : List (List Int)) (zs : List SolV) (code : Int) (kz : Nat) (w : World) (hz : ZArg 1048576 w A n f B m s) (hr : OsoRes f s zs code) (hk : zs.length = kz) :
    Calls Try.prog 47 #[.agg #[.slice A n c, .slice B m d]] w fun e w' => ∃ A' c', e = .returned (.tuple #[.slice A' kz c', .int .i64 code]) ∧ Below w.heap.size w w' ∧ ObjQr w'.heap.size w' A' zs :=
  (osoS A n c f B m d s zs code kz w hz hr hk).mono fun _ w' ⟨A', c', h1, h2, h3⟩ => ⟨A', c', h1, h2, w', h3, Nat.le_refl _, Below.refl _ _⟩
end Go.Proofs.Ytaejgmdeiemhcaa
