import Derived.Test.YtiaebilcgmahlaaProg
import Derived.Test.YtiaebilcgmahlaaZh
import Derived.Test.YtiaebilcgmahlaaZp
import Derived.Test.YtiaebilcgmahlaaZav
import Derived.Test.YtiaebilcgmahlaaZau
import Derived.DeepKeys4
import Derived.WalkArith
import Derived.Maps.RangeWalk
namespace Go.Proofs.Ytiaebilcgmahlaa
open Go Go.RowKit Go.ChangeShapes Go.WideShapes
open Go.WideElems (Fit rg rd rd_key rg_of rd_val)
open Classical
set_option maxRecDepth 100000
/-! Tuples as keys of a map. -/
/-- A tuple with zeros behind it, as a value. -/
def tkey (xs : List Int) : Value := .agg (ints (pad12 xs)).toArray
theorem ints_inj : ∀ {xs ys : List Int}, ints xs = ints ys → xs = ys
  | [], [], _ => rfl
  | [], _ :: _, h => by simp [ints] at h
  | _ :: _, [], h => by simp [ints] at h
  | x :: xs, y :: ys, h => by
    simp only [ints, List.map_cons, List.cons.injEq] at h
    injection h.1 with _ h1
    rw [h1, ints_inj (xs := xs) (ys := ys) h.2]
theorem tkey_inj {xs ys : List Int} (hl : xs.length = ys.length) (h : tkey xs = tkey ys) : xs = ys := by
  unfold tkey at h
  injection h with h
  have h1 : ints (pad12 xs) = ints (pad12 ys) := by
    have h2 := congrArg Array.toList h
    simpa using h2
  have h2 := ints_inj h1
  unfold pad12 at h2
  exact (List.append_inj h2 hl).1
theorem tk_laid : laidOutB Try.prog = true := by kernel_rfl
theorem tk_row : (65 : TypeId) < Try.prog.types.size := of_decide_eq_true (by kernel_rfl)
theorem tk_deep : Try.prog.keyTypeAt (Try.prog.types.size + 1) 65 = true := by kernel_rfl
theorem tk_wide : (match Try.prog.underlying 65 with | some (.array _ _) | some (.struct _) => true | _ => false) = true := by rw [Try.underlying65]
theorem tk_law : WideMaps.KeyLaw Try.prog 65 := deep_law_laid tk_laid (m := 2) (by omega) tk_row (by kernel_rfl) tk_wide
theorem tk_keyed : Maps.Keyed Try.prog 65 := Maps.Keyed.of_law tk_law
theorem tk_cells : Try.prog.cellsOf 65 = 12 := by kernel_rfl
theorem tk_cellsI : Try.prog.cellsOf 2 = 1 := by kernel_rfl
theorem tk_size : ∃ m, Try.prog.types.size = m + 1 := by
  have h := tk_row
  cases hs : Try.prog.types.size with
  | zero => rw [hs] at h; exact absurd h (Nat.not_lt_zero _)
  | succ m => exact ⟨m, rfl⟩
theorem tmapM_some {α β : Type} {f : α → Option β} : ∀ {l : List α}, (∀ a ∈ l, ∃ b, f a = some b) → ∃ bs, l.mapM f = some bs
  | [], _ => ⟨[], rfl⟩
  | a :: l, h => by
    obtain ⟨b, hb⟩ := h a (by simp)
    obtain ⟨bs, hbs⟩ := tmapM_some (l := l) fun a ha => h a (by simp [ha])
    exact ⟨b :: bs, by simp [List.mapM_cons, hb, hbs]⟩
/-- Small numbers. -/
def Sm (xs : List Int) : Prop := xs.length ≤ 12 ∧ ∀ v ∈ xs, -4611686018427387904 ≤ v ∧ v < 4611686018427387904
theorem Tup.sm {n : Nat} {xs : List Int} (h : Tup n xs) (hn : n ≤ 12) : Sm xs := ⟨h.1, fun v hv => by have := h.mem v hv; omega⟩
theorem tkey_ex {xs : List Int} (h : Sm xs) : ∃ kl, keyOf Try.prog 65 (tkey xs) = some kl := by
  have hl := pad12_length h.1
  have hf : (tkey xs).formed Try.prog 65 = true := by simp [tkey, Value.formed, Try.underlying65, tk_cells, ints_length, hl]
  have hk : Try.prog.keyType 65 = true := tk_deep
  obtain ⟨m, hm⟩ := tk_size
  have hcs : (tkey xs).cells.toList = ints (pad12 xs) := by simp [tkey, Value.cells]
  have hlits : ∃ ls, Try.prog.keyLits (Try.prog.types.size + 1) 65 (tkey xs).cells.toList = some ls := by
    rw [hcs]
    unfold Program.keyLits
    rw [Try.underlying65]
    obtain ⟨bs, hbs⟩ := tmapM_some (f := fun i => Try.prog.keyLits Try.prog.types.size 2 (((ints (pad12 xs)).drop (i * Try.prog.cellsOf 2)).take (Try.prog.cellsOf 2))) (l := List.range 12) (fun i hi => by
      have hi := List.mem_range.1 hi
      rw [tk_cellsI, Nat.mul_one]
      have hil : i < (pad12 xs).length := by omega
      have e : ((ints (pad12 xs)).drop i).take 1 = [.int .i64 ((pad12 xs)[i])] := by
        rw [List.drop_eq_getElem_cons (by rw [ints_length]; exact hil)]
        simp [ints]
      rw [e, hm]
      unfold Program.keyLits
      rw [Try.underlying2]
      have hw : (Lit.int .i64 ((pad12 xs)[i])).wf = true := by
        have hv : -4611686018427387904 ≤ (pad12 xs)[i] ∧ (pad12 xs)[i] < 4611686018427387904 := by
          have hmem : (pad12 xs)[i] ∈ pad12 xs := List.getElem_mem hil
          rcases List.mem_append.1 (show (pad12 xs)[i] ∈ xs ++ List.replicate (12 - xs.length) 0 from hmem) with h9 | h9
          · exact h.2 _ h9
          · rw [(List.mem_replicate.1 h9).2]; omega
        exact WalkArith.wf_i64 (by omega)
      exact ⟨[.int .i64 ((pad12 xs)[i])], if_pos ⟨rfl, hw⟩⟩)
    refine ⟨bs.flatten, ?_⟩
    show (if (ints (pad12 xs)).length = Try.prog.cellsOf 65 then _ else none) = some bs.flatten
    rw [if_pos (by rw [tk_cells, ints_length, hl]), hbs]
    rfl
  obtain ⟨ls, hls⟩ := hlits
  unfold keyOf
  rw [Try.underlying65]
  refine ⟨.string (keyBytes ls), ?_⟩
  show (if Try.prog.keyType 65 && (tkey xs).formed Try.prog 65 then _ else none) = _
  rw [hk, hf, hls]
  rfl
/-- What a map of tuples that were met says. -/
noncomputable def metV (found : List (List Int)) : Value → Option Value := fun k => if ∃ p, p ∈ found ∧ k = tkey p then some (.bool true) else none
theorem metV_at {m : Nat} {found : List (List Int)} {q : List Int} (hf : ∀ p, p ∈ found → p.length = m) (hq : q.length = m) : (metV found (tkey q)).getD (.bool false) = .bool (decide (q ∈ found)) := by
  unfold metV
  by_cases h : q ∈ found
  · rw [if_pos ⟨q, h, rfl⟩]; simp [h]
  · rw [if_neg]
    · simp [h]
    · rintro ⟨p, hp, e⟩
      exact h (tkey_inj (hq.trans (hf p hp).symm) e ▸ hp)
theorem metV_none {m : Nat} {found : List (List Int)} {q : List Int} (hf : ∀ p, p ∈ found → p.length = m) (hq : q.length = m) (h : q ∉ found) : metV found (tkey q) = none := by
  unfold metV
  rw [if_neg]
  rintro ⟨p, hp, e⟩
  exact h (tkey_inj (hq.trans (hf p hp).symm) e ▸ hp)
theorem metV_add (found : List (List Int)) (q : List Int) (k : Value) : (if k = tkey q then some (.bool true) else metV found k) = metV (found ++ [q]) k := by
  unfold metV
  by_cases h : k = tkey q
  · rw [if_pos h, if_pos ⟨q, by simp, h⟩]
  · rw [if_neg h]
    by_cases h2 : ∃ p, p ∈ found ∧ k = tkey p
    · rw [if_pos h2]
      obtain ⟨p, hp, e⟩ := h2
      rw [if_pos ⟨p, by simp [hp], e⟩]
    · rw [if_neg h2, if_neg]
      rintro ⟨p, hp, e⟩
      rcases List.mem_append.1 hp with hp | hp
      · exact h2 ⟨p, hp, e⟩
      · simp at hp; subst hp; exact h e
theorem metV_nil : (fun _ => none : Value → Option Value) = metV [] := by
  funext k
  unfold metV
  rw [if_neg]
  rintro ⟨p, hp, _⟩
  cases hp
theorem MapN.congr {K : TypeId} {w : World} {b n : Nat} {V V' : Value → Option Value} (h : MapN K w b n V) (e : ∀ k, V k = V' k) : MapN K w b n V' := by
  have e2 : V = V' := funext e
  rw [← e2]; exact h
/-- How many entries a map has. -/
def mLen (w : World) (b : Nat) : Nat := match w.heap[b]? with | some (.map es _) => es.size | _ => 0
theorem MapN.len {K : TypeId} {w : World} {b n : Nat} {V : Value → Option Value} (h : MapN K w b n V) : mLen w b = n := by
  obtain ⟨es, clock, hb, hs⟩ := h.raw
  unfold mLen
  rw [hb]
  exact hs
/-- Block b is the map of the tuples that were met, each once. -/
def MetN (w : World) (b : Nat) (found : List (List Int)) : Prop := MapN 65 w b found.length (metV found)
/-- What a map of tuples reads as. -/
def MetD (D : DataW Value) (found : List (List Int)) : Prop := ∀ key kl, keyOf Try.prog 65 key = some kl → D.atKey kl .nil = (match metV found key with | some v => .held v | none => .nil)
/-- Block r goes over the tuples of the map b; those that it has given are got. -/
def MetR (w : World) (b r : Nat) (found got : List (List Int)) (cnt : Nat) : Prop :=
  ∃ (D : DataW Value) (left : Lit → Bool), w.ranges Try.prog 65 tokK b r found.length D left cnt ∧ MetD D found ∧ got.Nodup ∧ (∀ y, y ∈ got → y ∈ found) ∧
    (∀ y kl, y ∈ found → y ∉ got → keyOf Try.prog 65 (tkey y) = some kl → left kl = true) ∧ (∀ y kl, y ∈ got → keyOf Try.prog 65 (tkey y) = some kl → left kl = false)
section
variable {w w' : World} {b r m cnt : Nat} {found got : List (List Int)}
theorem MetN.owns (h : MetN w b found) : ∃ D, w.ownsMap Try.prog 65 tokK b found.length D ∧ MetD D found := by
  obtain ⟨es, clock, hb, F, hs, hV⟩ := h
  exact ⟨_, ⟨es, clock, hb, F, by omega, rfl⟩, hV⟩
theorem MetD.has {D : DataW Value} (h : MetD D found) {y : List Int} {kl : Lit} (hy : y ∈ found) (hk : keyOf Try.prog 65 (tkey y) = some kl) : Maps.has D kl = true := by
  have h9 := h _ _ hk
  have e : metV found (tkey y) = some (.bool true) := by unfold metV; rw [if_pos ⟨y, hy, rfl⟩]
  rw [e] at h9
  cases hh : Maps.has D kl with
  | true => rfl
  | false =>
    rw [Maps.atKey_of_not_has hh] at h9
    cases h9
theorem MetN.range {t e : TypeId} (h : MetN w b found) (ht : Try.prog.underlying t = some (.map 65 e)) :
    ∃ w' cnt, (Instr.range t (.map (some b))).run Try.prog w = .ok (.pointer (some ⟨w.heap.size, 0, none⟩)) w' ∧ MetR w' b w.heap.size found [] cnt ∧ w.grownBy w' none ∧ w'.heap.size = w.heap.size + 1 := by
  obtain ⟨D, hown, hD⟩ := h.owns
  obtain ⟨w', hrun, hrg, hg, hs⟩ := hown.range tk_keyed ht
  exact ⟨w', _, hrun, ⟨D, _, hrg, hD, List.nodup_nil, fun y hy => absurd hy List.not_mem_nil, fun y kl hy _ hk => hD.has hy hk, fun y kl hy => absurd hy List.not_mem_nil⟩, hg, hs⟩
theorem MetR.of_blocks (h : MetR w b r found got cnt) (eb : w'.heap[b]? = w.heap[b]?) (er : w'.heap[r]? = w.heap[r]?) : MetR w' b r found got cnt := by
  obtain ⟨D, left, ⟨es, clock, since, seen, c0, hb, F, hs, hD, hr, rest⟩, h2⟩ := h
  exact ⟨D, left, ⟨es, clock, since, seen, c0, eb.trans hb, F, hs, hD, er.trans hr, rest⟩, h2⟩
theorem MetR.ltb (h : MetR w b r found got cnt) : b < w.heap.size := by
  obtain ⟨D, left, hr, _⟩ := h
  exact hr.owns.lt
theorem MetR.ltr (h : MetR w b r found got cnt) : r < w.heap.size := by
  obtain ⟨D, left, hr, _⟩ := h
  exact hr.lt
theorem MetR.later (h : MetR w b r found got cnt) (hb : Below w.heap.size w w') : MetR w' b r found got cnt := h.of_blocks (hb.block b h.ltb) (hb.block r h.ltr)
theorem MetR.left_eq (h : MetR w b r found got cnt) : w.rangeLeft b r = cnt := by
  obtain ⟨D, left, hr, _⟩ := h
  exact hr.left_eq
theorem MetR.mono {got' : List (List Int)} (h : MetR w b r found got cnt) (e : got = got') : MetR w b r found got' cnt := e ▸ h
/-- The step: nothing is left, or one that was not met yet. -/
theorem MetR.next (h : MetR w b r found got cnt) (hm : ∀ p, p ∈ found → p.length = m) (hsm : ∀ p, p ∈ found → Sm p) (ty : TypeId) :
    ((∀ y, y ∈ found ↔ y ∈ got) ∧ (Instr.next (.pointer (some ⟨r, 0, none⟩)) false ty).run Try.prog w = .ok (.tuple #[.bool false]) w) ∨
    ∃ p v w' cnt', p ∈ found ∧ p ∉ got ∧ (Instr.next (.pointer (some ⟨r, 0, none⟩)) false ty).run Try.prog w = .ok (.tuple #[.bool true, tkey p, v]) w' ∧ MetR w' b r found (got ++ [p]) cnt' ∧ cnt' < cnt ∧ w.grownBy w' (some r) ∧ w'.heap.size = w.heap.size ∧ (Instr.entry (.pointer (some ⟨r, 0, none⟩))).run Try.prog w' = .ok (.tuple #[tkey p, v]) w' := by
  obtain ⟨D, left, hr, hD, hn, hs, h1, h2⟩ := h
  rcases hr.next tk_keyed ty with ⟨_, hl, hrun⟩ | ⟨key, v, kl, y, w', cnt', hkey, hlk, hv, hat, hrun, hrg, hlt, hgr, hsz, hen⟩
  · refine .inl ⟨fun y => ⟨fun hy => ?_, hs y⟩, hrun⟩
    refine Classical.byContradiction fun hno => ?_
    obtain ⟨kl, hk⟩ := tkey_ex (hsm y hy)
    have h9 := h1 y kl hy hno hk
    rw [hl kl] at h9
    cases h9
  · have h9 := hD key kl hkey
    rw [hat .nil] at h9
    have hy : y = (.held v, []) := by unfold tokK at hv; injection hv with hv; exact hv.symm
    rw [hy] at h9
    obtain ⟨p, hp, rfl⟩ : ∃ p, p ∈ found ∧ key = tkey p := by
      cases e : metV found key with
      | none => rw [e] at h9; cases h9
      | some u =>
        unfold metV at e
        by_cases hex : ∃ p, p ∈ found ∧ key = tkey p
        · exact hex
        · rw [if_neg hex] at e; cases e
    have hpg : p ∉ got := fun hg => by have h8 := h2 p kl hg hkey; rw [hlk] at h8; cases h8
    refine .inr ⟨p, v, w', cnt', hp, hpg, hrun, ⟨D, _, hrg, hD, List.nodup_append.2 ⟨hn, by simp, fun a ha c hc e => by simp at hc; subst hc; subst e; exact hpg ha⟩, fun z hz => ?_, fun z kz hz hzn hk => ?_, fun z kz hz hk => ?_⟩, hlt, hgr, hsz, hen⟩
    · rcases List.mem_append.1 hz with hz | hz
      · exact hs z hz
      · simp at hz; subst hz; exact hp
    · have hz1 : z ∉ got := fun e => hzn (List.mem_append.2 (.inl e))
      have hz2 : z ≠ p := fun e => hzn (List.mem_append.2 (.inr (by simp [e])))
      have h8 := h1 z kz hz hz1 hk
      have hne : kz.sameKey kl = false := by
        cases hc : kz.sameKey kl with
        | false => rfl
        | true =>
          have e := WideAt.sameKey_eq hc
          rw [e] at hk
          exact absurd (tkey_inj ((hm z hz).trans (hm p hp).symm) (tk_keyed.inj hk hkey)) hz2
      simp [h8, hne]
    · rcases List.mem_append.1 hz with hz | hz
      · simp [h2 z kz hz hk]
      · simp at hz
        subst hz
        rw [hkey] at hk
        injection hk with hk
        subst hk
        simp [WideAt.sameKey_self (tk_keyed.key hkey)]
end
end Go.Proofs.Ytiaebilcgmahlaa
