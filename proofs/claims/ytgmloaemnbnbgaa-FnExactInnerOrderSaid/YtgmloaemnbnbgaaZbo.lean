import Derived.Test.YtgmloaemnbnbgaaProg
import Derived.Test.YtgmloaemnbnbgaaZb
import Derived.Test.YtgmloaemnbnbgaaZc
import Derived.Test.YtgmloaemnbnbgaaZd
namespace Go.Proofs.Ytgmloaemnbnbgaa
open Go Go.RowKit
set_option maxHeartbeats 1000000

theorem then_any (A C : Option Addr) (n c m d : Nat) (xs ys : List Int) (w : World) (hn : xs.length = n) (hm : ys.length = m) (hb : n ≤ 1048576) (hb2 : m ≤ 1048576) (hx : Rd w A xs) (hy : Rd w C ys) (hin : ∀ x ∈ xs, 0 ≤ x ∧ x < (m : Int)) :
    Calls Try.prog 130 #[.slice A n c, .slice C m d] w fun e w' => e = .returned (.slice (some ⟨w.heap.size, 0, none⟩) n n) ∧ Below w.heap.size w w' ∧ Row 2 w' w.heap.size (thenL xs ys) := by
  have hmk := run_make_row' (P := Try.prog) 82 2 (.int .i64 0) 8 Try.underlying82 rowInfo rfl .i64 .i64 n (by omega) (by omega)
  have HN := hide hn
  have HM := hide hm
  have HIN := hide hin
  clear hn hm hin
  go_enter Try.func130, Try.ntmps130
  go_wp2_with fail
  clear hmk
  go_loopw [13] (fun i wr => ∃ k : Nat, k ≤ n ∧ i = .int .i64 k ∧ Below w.heap.size w wr ∧ Row 2 wr w.heap.size ((thenL xs ys).take k ++ List.replicate (n - k) 0)) (fun i _ => n - (intOf i).toNat)
  case atStart => exact ⟨0, Nat.zero_le _, rfl, (Below.refl _ _).alloc (Nat.le_refl _) _, by simpa using Row.made 2 w n⟩
  case round =>
    obtain ⟨k, hk, rfl, hbe, hrow⟩ := hrel
    have HB := hide hbe
    have HROW := hide hrow
    clear hbe hrow
    have HZ : Hid ((thenL xs ys).length = n) := hide ((thenL_length xs ys).trans HN.out)
    by_cases hlt : k < n
    · obtain ⟨b, o, rfl, hbw, hc⟩ := hx (by have := HN.out; omega)
      have hc1 : wr.cell? ⟨b, o + k, none⟩ = some (.int .i64 (xs.getD k 0)) := (HB.out.cell (p := ⟨b, o + k, none⟩) hbw).trans (hc k (by have := HN.out; omega))
      have hl : k < xs.length := by have := HN.out; omega
      have hr := HIN.out (xs.getD k 0) (by simp [hl])
      have HL := hide hl
      obtain ⟨x, hx'⟩ : ∃ x, xs.getD k 0 = x := ⟨_, rfl⟩
      rw [hx'] at hc1 hr
      have HX := hide hx'
      clear hx' hc hl
      obtain ⟨j, rfl⟩ := Int.eq_ofNat_of_zero_le hr.1
      obtain ⟨b2, o2, rfl, hbw2, hc2⟩ := hy (by have := HM.out; omega)
      have hc3 : wr.cell? ⟨b2, o2 + j, none⟩ = some (.int .i64 (ys.getD j 0)) := (HB.out.cell (p := ⟨b2, o2 + j, none⟩) hbw2).trans (hc2 j (by have := HM.out; omega))
      obtain ⟨y, hy'⟩ : ∃ y, ys.getD j 0 = y := ⟨_, rfl⟩
      rw [hy'] at hc3
      have HY := hide hy'
      clear hy' hc2
      have h2 := HROW.out.cell (i := k) (by have := HZ.out; simp; omega)
      have h3 := HROW.out.frozen k
      have hltz : (k : Int) < n := by omega
      have hjz : (j : Int) < m := hr.2
      clear hr
      go_wp2_with fail
      go_roundw
      case rel =>
        have hst := HROW.out.set k ((thenL xs ys).getD k 0)
        rw [fill_step (thenL xs ys) n k HZ.out hlt] at hst
        have e : (thenL xs ys).getD k 0 = y := (thenL_getD xs ys k j HL.out HX.out).trans HY.out
        rw [e] at hst
        exact ⟨k + 1, by omega, by go_num, HB.out.setCell (p := ⟨w.heap.size, k, none⟩) (Nat.le_refl _) _, hst⟩
      case measure => simp [intOf]; omega
    · have hkn : k = n := by omega
      subst hkn
      go_wp2_with fail
      go_ret
      refine ⟨rfl, HB.out, ?_⟩
      have h := HROW.out
      have hz := HZ.out
      rw [Nat.sub_self, List.replicate_zero, List.append_nil, List.take_of_length_le (by omega)] at h
      exact h
theorem then_any' (A C : Option Addr) (n c m d : Nat) (xs ys : List Int) (w : World) (hn : xs.length = n) (hm : ys.length = m) (hb : n ≤ 1048576) (hb2 : m ≤ 1048576) (hx : Rd w A xs) (hy : Rd w C ys) (hin : ∀ x ∈ xs, 0 ≤ x ∧ x < (m : Int)) :
    Calls Try.prog 130 #[.slice A n c, .slice C m d] w fun e w' => ∃ A' c', e = .returned (.slice A' n c') ∧ Below w.heap.size w w' ∧ Res 2 w.heap.size w' A' (thenL xs ys) :=
  (then_any A C n c m d xs ys w hn hm hb hb2 hx hy hin).mono fun _ _ ⟨he, hb, hr⟩ => ⟨_, _, he, hb, .inr ⟨_, rfl, Nat.le_refl _, hr.own⟩⟩

end Go.Proofs.Ytgmloaemnbnbgaa
namespace Go.Proofs.Ytgmloaemnbnbgaa
open Go Go.RowKit
/-! Rows in order, each once: where one stands, and where a new one goes. -/
theorem lessL_irr : ∀ xs : List Int, lessL xs xs = false
  | [] => rfl
  | x :: xs => by simp [lessL, lessL_irr xs]
theorem lessL_trans : ∀ xs ys zs : List Int, lessL xs ys = true → lessL ys zs = true → lessL xs zs = true
  | [], [], _, h, _ => by simp [lessL] at h
  | [], _ :: _, [], _, h => by simp [lessL] at h
  | [], _ :: _, _ :: _, _, _ => by simp [lessL]
  | _ :: _, [], _, h, _ => by simp [lessL] at h
  | _ :: _, _ :: _, [], _, h => by simp [lessL] at h
  | x :: xs, y :: ys, z :: zs, h, k => by
    simp only [lessL] at h k ⊢
    by_cases e : x = y
    · subst e
      rw [if_pos rfl] at h
      by_cases e2 : x = z
      · subst e2
        rw [if_pos rfl] at k ⊢
        exact lessL_trans xs ys zs h k
      · rw [if_neg e2] at k ⊢
        exact k
    · rw [if_neg e] at h
      have h1 : x < y := by simpa using h
      by_cases e2 : y = z
      · subst e2
        rw [if_neg e]
        exact h
      · rw [if_neg e2] at k
        have h2 : y < z := by simpa using k
        rw [if_neg (by omega)]
        simp; omega
theorem lessL_tri : ∀ xs ys : List Int, xs ≠ ys → lessL xs ys = true ∨ lessL ys xs = true
  | [], [], h => absurd rfl h
  | [], _ :: _, _ => .inl rfl
  | _ :: _, [], _ => .inr rfl
  | x :: xs, y :: ys, h => by
    simp only [lessL]
    by_cases e : x = y
    · subst e
      rw [if_pos rfl, if_pos rfl]
      exact lessL_tri xs ys (fun e => h (by rw [e]))
    · rw [if_neg e, if_neg (Ne.symm e)]
      have : x < y ∨ y < x := by omega
      rcases this with h | h
      · exact .inl (by simpa using h)
      · exact .inr (by simpa using h)
/-- In order, each once. -/
def Asc (l : List (List Int)) : Prop := l.Pairwise fun a b => lessL a b = true
theorem Asc.at {l : List (List Int)} (h : Asc l) {i j : Nat} (hij : i < j) (hj : j < l.length) : lessL (l.getD i []) (l.getD j []) = true := by
  have h2 := List.pairwise_iff_getElem.1 h i j (by omega) hj hij
  have e1 : l.getD i [] = l[i] := by have : i < l.length := (by omega); simp [this]
  have e2 : l.getD j [] = l[j] := by simp [hj]
  rw [e1, e2]
  exact h2
theorem Asc.one (p : List Int) : Asc [p] := by simp [Asc]
theorem Asc.nodup {l : List (List Int)} (h : Asc l) : l.Nodup := List.Pairwise.imp (fun {a b} hab e => by subst e; rw [lessL_irr] at hab; cases hab) h
theorem Asc.eq : ∀ {l m : List (List Int)}, Asc l → Asc m → (∀ x, x ∈ l ↔ x ∈ m) → l = m
  | [], [], _, _, _ => rfl
  | [], b :: m, _, _, h => by have := (h b).2 (by simp); cases this
  | a :: l, [], _, _, h => by have := (h a).1 (by simp); cases this
  | a :: l, b :: m, hl, hm, h => by
    have hl2 := List.pairwise_cons.1 hl
    have hm2 := List.pairwise_cons.1 hm
    have hab : a = b := by
      rcases List.mem_cons.1 ((h a).1 (by simp)) with e | e
      · exact e
      · rcases List.mem_cons.1 ((h b).2 (by simp)) with e2 | e2
        · exact e2.symm
        · have h1 := hm2.1 a e
          have h2 := hl2.1 b e2
          have h3 := lessL_trans _ _ _ h1 h2
          rw [lessL_irr] at h3
          cases h3
    subst hab
    have hna : a ∉ l := fun e => by have h3 := hl2.1 a e; rw [lessL_irr] at h3; cases h3
    have hnb : a ∉ m := fun e => by have h3 := hm2.1 a e; rw [lessL_irr] at h3; cases h3
    rw [Asc.eq hl2.2 hm2.2 (fun x => ⟨fun hx => by
      rcases List.mem_cons.1 ((h x).1 (by simp [hx])) with e | e
      · subst e; exact absurd hx hna
      · exact e, fun hx => by
      rcases List.mem_cons.1 ((h x).2 (by simp [hx])) with e | e
      · subst e; exact absurd hx hnb
      · exact e⟩)]
/-- All before lo are less than p, none from hi on. -/
structure Plc (l : List (List Int)) (p : List Int) (lo hi : Nat) : Prop where
  le : lo ≤ hi
  top : hi ≤ l.length
  lt : ∀ i, i < lo → lessL (l.getD i []) p = true
  ge : ∀ i, hi ≤ i → i < l.length → lessL (l.getD i []) p = false
theorem Plc.start (l : List (List Int)) (p : List Int) : Plc l p 0 l.length := ⟨Nat.zero_le _, Nat.le_refl _, fun i hi => by omega, fun i h1 h2 => by omega⟩
theorem Plc.up {l : List (List Int)} {p : List Int} {lo hi m : Nat} (hl : Asc l) (h : Plc l p lo hi) (hm : lo ≤ m ∧ m < hi) (hp : lessL (l.getD m []) p = true) : Plc l p (m + 1) hi :=
  ⟨by omega, h.top, fun i hi2 => by
    by_cases e : i = m
    · rw [e]; exact hp
    · exact lessL_trans _ _ _ (hl.at (i := i) (j := m) (by omega) (by have := h.top; omega)) hp, h.ge⟩
theorem Plc.down {l : List (List Int)} {p : List Int} {lo hi m : Nat} (hl : Asc l) (h : Plc l p lo hi) (hm : lo ≤ m ∧ m < hi) (hp : lessL (l.getD m []) p = false) : Plc l p lo m :=
  ⟨by omega, by have := h.top; omega, h.lt, fun i h1 h2 => by
    by_cases e : i = m
    · rw [e]; exact hp
    · cases hc : lessL (l.getD i []) p with
      | false => rfl
      | true =>
        have := lessL_trans _ _ _ (hl.at (i := m) (j := i) (by omega) h2) hc
        rw [hp] at this
        cases this⟩
theorem Plc.mem {l : List (List Int)} {p : List Int} {k : Nat} (hl : Asc l) (h : Plc l p k k) : p ∈ l ↔ k < l.length ∧ l.getD k [] = p := by
  constructor
  · intro hp
    obtain ⟨i, hi, e⟩ := List.getElem_of_mem hp
    have e1 : l.getD i [] = p := by simp [hi, e]
    by_cases h1 : i < k
    · have := h.lt i h1
      rw [e1, lessL_irr] at this
      cases this
    · by_cases h2 : i = k
      · exact ⟨by omega, by rw [← h2]; exact e1⟩
      · have h3 := hl.at (i := k) (j := i) (by omega) hi
        have h4 := h.ge k (Nat.le_refl _) (by omega)
        rw [e1, h4] at h3
        cases h3
  · rintro ⟨h1, h2⟩
    rw [← h2]
    simp [h1]
/-- p put in at k. -/
def insL (l : List (List Int)) (k : Nat) (p : List Int) : List (List Int) := l.take k ++ p :: l.drop k
theorem insL_length (l : List (List Int)) (k : Nat) (p : List Int) : (insL l k p).length = l.length + 1 := by
  simp [insL]; omega
theorem insL_mem (l : List (List Int)) (k : Nat) (p x : List Int) : x ∈ insL l k p ↔ x = p ∨ x ∈ l := by
  have h : x ∈ l ↔ x ∈ l.take k ∨ x ∈ l.drop k := by
    rw [← List.mem_append, List.take_append_drop]
  rw [h]
  simp only [insL, List.mem_append, List.mem_cons]
  constructor
  · rintro (h | h | h)
    · exact .inr (.inl h)
    · exact .inl h
    · exact .inr (.inr h)
  · rintro (h | h | h)
    · exact .inr (.inl h)
    · exact .inl h
    · exact .inr (.inr h)
theorem Asc.ins {l : List (List Int)} {p : List Int} {k : Nat} (hl : Asc l) (h : Plc l p k k) (hn : p ∉ l) : Asc (insL l k p) := by
  have hs : (l.take k ++ l.drop k).Pairwise fun a b => lessL a b = true := by rw [List.take_append_drop]; exact hl
  obtain ⟨h1, h2, h3⟩ := List.pairwise_append.1 hs
  have hdr : ∀ y, y ∈ l.drop k → lessL p y = true := by
    intro y hy
    obtain ⟨i, hi, e⟩ := List.getElem_of_mem hy
    rw [List.length_drop] at hi
    rw [List.getElem_drop] at e
    have h4 := h.ge (k + i) (by omega) (by omega)
    have e2 : l.getD (k + i) [] = y := by have : k + i < l.length := (by omega); simp [this, e]
    rw [e2] at h4
    rcases lessL_tri p y (fun e3 => by subst e3; exact hn (List.mem_of_mem_drop hy)) with h5 | h5
    · exact h5
    · rw [h4] at h5; cases h5
  have htk : ∀ y, y ∈ l.take k → lessL y p = true := by
    intro y hy
    obtain ⟨i, hi, e⟩ := List.getElem_of_mem hy
    rw [List.length_take] at hi
    rw [List.getElem_take] at e
    have h4 := h.lt i (by omega)
    have e2 : l.getD i [] = y := by have : i < l.length := (by omega); simp [this, e]
    rw [e2] at h4
    exact h4
  refine List.pairwise_append.2 ⟨h1, List.pairwise_cons.2 ⟨hdr, h2⟩, fun a ha b hb => ?_⟩
  rcases List.mem_cons.1 hb with e | e
  · subst e; exact htk a ha
  · exact h3 a ha b e
end Go.Proofs.Ytgmloaemnbnbgaa
