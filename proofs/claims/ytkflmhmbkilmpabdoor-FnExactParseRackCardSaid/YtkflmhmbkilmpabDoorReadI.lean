import Derived.Test.YtkflmhmbkilmpabDoorProg
import Derived.Test.YtkflmhmbkilmpabDoorRdF
namespace Go.Proofs.YtkflmhmbkilmpabDoor
open Go Go.RowKit
set_option maxHeartbeats 1000000

theorem liteIndex_any (c : UInt8) (w : World) :
    Calls Tryd.prog 42 #[.string ⟨#[48, 49, 50, 51, 52, 53, 54, 55, 56, 57, 97, 98]⟩, .int .u8 (c.toNat : Int)] w fun e w' => e = .returned (.int .i64 (ub c.toNat)) ∧ w = w' := by
  have hu := ub_byte c
  have HU := hide hu
  clear hu
  go_enter Tryd.func42, Tryd.ntmps42
  go_wp2_with fail
  rw [run_callFunc_extern Tryd.func49 (by kernel_rfl) (by kernel_rfl) (by kernel_rfl) (e := Extern.BytealgIndexByte.indexByte) (by kernel_rfl), Lib.run_indexByteString]
  simp only [Result.andThen]
  rw [Oper.upon_value]
  go_wp2_with fail
  go_ret
  have h := HU.out
  refine ⟨?_, rfl⟩
  rw [← h]
  simp

theorem index_digits (c : UInt8) (w : World) :
    Calls Tryd.prog 32 #[.string ⟨#[48, 49, 50, 51, 52, 53, 54, 55, 56, 57, 97, 98]⟩, .int .u8 (c.toNat : Int)] w fun e w' => e = .returned (.int .i64 (ub c.toNat)) ∧ w = w' := by
  obtain ⟨u, hu⟩ : ∃ u, ub c.toNat = u := ⟨_, rfl⟩
  have HU := hide hu
  rw [hu]
  clear hu
  go_enter Tryd.func32, Tryd.ntmps32
  go_wp2_with fail
  refine (liteIndex_any c _).mono ?_
  rintro e w1 ⟨rfl, rfl⟩
  rw [HU.out]
  go_wp2_with fail
  go_ret
  exact ⟨rfl, rfl⟩

theorem rdInfo : (Tryd.prog.info? 2).map (fun i => (i.zero, i.size, i.bytes)) = some (some (.int .i64 0), 1, 8) := by kernel_rfl

theorem elementsOf_any (s : ByteArray) (xs : List Int) (ok : Bool) (k : Nat) (w : World) (hb : s.size ≤ 1048576) (hr : ReadRes s xs ok) (hk : xs.length = k) :
    Calls Tryd.prog 22 #[.string s] w (BPost 2 k xs ok w) := by
  obtain ⟨n, hn⟩ : ∃ n, s.size = n := ⟨_, rfl⟩
  have hmk := run_make_row' (P := Tryd.prog) 39 2 (.int .i64 0) 8 Tryd.underlying39 rdInfo rfl .i64 .i64 s.size (by omega) (by omega)
  have HR := hide hr
  have HK := hide hk
  clear hr hk hn
  go_enter Tryd.func22, Tryd.ntmps22
  go_wp2_with fail
  clear hmk
  have HZ : Hid ((readL s).length = s.size) := hide (readL_length s)
  go_loopw [12] (fun i wr => ∃ k : Nat, k ≤ s.size ∧ i = .int .i64 k ∧ Below w.heap.size w wr ∧ Row 2 wr w.heap.size ((readL s).take k ++ List.replicate (s.size - k) 0) ∧ ∀ j, j < k → 0 ≤ (readL s).getD j 0) (fun i _ => s.size - (intOf i).toNat)
  case atStart => exact ⟨0, Nat.zero_le _, rfl, (Below.refl _ _).alloc (Nat.le_refl _) _, by simpa using Row.made 2 w s.size, fun j hj => absurd hj (Nat.not_lt_zero _)⟩
  case round =>
    obtain ⟨i, hi, rfl, hbe, hrow, hall⟩ := hrel
    have HB := hide hbe
    have HROW := hide hrow
    have HALL := hide hall
    clear hbe hrow hall
    by_cases hlt : i < s.size
    · have hg := readL_getD s i hlt
      have hge := ub_ge s[i].toNat
      have hle := ub_le s[i].toNat
      have h2 := HROW.out.cell (i := i) (by have := HZ.out; simp; omega)
      have h3 := HROW.out.frozen i
      have HG := hide hg
      clear hg
      have hltz : (i : Int) < s.size := by omega
      go_wp2_with fail
      refine (index_digits s[i] _).mono ?_
      rintro e w1 ⟨rfl, rfl⟩
      obtain ⟨u, hu⟩ : ∃ u, ub s[i].toNat = u := ⟨_, rfl⟩
      have HU := hide hu
      rw [hu] at hge hle ⊢
      clear hu
      by_cases hu0 : u < 0
      · go_wp2_with fail
        go_ret2
        have hno : ¬ AllDig s := fun h => by have := h i hlt; rw [HG.out, HU.out] at this; omega
        rcases HR.out with ⟨h, _⟩ | ⟨_, h1, h2⟩
        · exact absurd h hno
        · subst h1
          subst h2
          have hk := HK.out
          simp at hk
          subst hk
          exact ⟨_, _, rfl, HB.out, .inl ⟨rfl, rfl⟩⟩
      · go_wp2_with fail
        go_roundw
        case rel =>
          have hst := HROW.out.set i ((readL s).getD i 0)
          rw [fill_step (readL s) s.size i HZ.out hlt, HG.out, HU.out] at hst
          refine ⟨i + 1, by omega, by go_num, HB.out.setCell (p := ⟨w.heap.size, i, none⟩) (Nat.le_refl _) _, hst, fun j hj => ?_⟩
          by_cases e : j = i
          · subst e; rw [HG.out, HU.out]; omega
          · exact HALL.out j (by omega)
        case measure => simp [intOf]; omega
    · have hin : i = s.size := by omega
      subst hin
      go_wp2_with fail
      go_ret2
      rcases HR.out with ⟨_, h1, h2⟩ | ⟨h, _⟩
      · subst h1
        subst h2
        have h := HROW.out
        have hk := HK.out
        have hz := HZ.out
        rw [Nat.sub_self, List.replicate_zero, List.append_nil, List.take_of_length_le (by omega)] at h
        rw [hz] at hk
        subst hk
        exact ⟨_, _, rfl, HB.out, .inr ⟨_, rfl, Nat.le_refl _, h.own⟩⟩
      · exact absurd HALL.out h
end Go.Proofs.YtkflmhmbkilmpabDoor
