import Derived.Test.YtkflmhmbkilmpabDoorProg
import Derived.Test.YtkflmhmbkilmpabDoorSpF
import Derived.Test.YtkflmhmbkilmpabDoorHeld
namespace Go.Proofs.YtkflmhmbkilmpabDoor
open Go Go.RowKit
set_option maxHeartbeats 2000000

theorem spsInfo : (Tryd.prog.info? 9).map (fun i => (i.zero, i.size, i.bytes)) = some (some (.string ByteArray.empty), 1, 16) := by kernel_rfl
theorem sps_new {w : World} {v : Value} {t : TypeId} : ∀ j u, [v][j]? = some u → (w.alloc (.cells #[v] t)).cell? ((⟨w.heap.size, 0, none⟩ : Addr).add j) = some u := by
  intro j u hj
  match j, hj with
  | 0, hj => simp at hj; subst hj; simp [Addr.add, World.cell?_alloc_new]
theorem sps_empty (w : World) (t : TypeId) : (w.alloc (.cells #[] t)).ownsRow w.heap.size t 1 (.slice (some ⟨w.heap.size, 0, none⟩) 0 0) 0 [] :=
  ⟨by simp, .inr ⟨w.heap.size, 0, #[], rfl, Nat.le_refl _, heap_alloc_new _ _, Nat.le_refl _, by unfold maxLen; omega, by simp, by simp⟩⟩
def sBytes (s : ByteArray) (a i : Nat) : List UInt8 := (s.extract a i).data.toList
theorem sBytes_eq (s : ByteArray) (a i : Nat) : sBytes s a i = (s.data.toList.drop a).take (i - a) := by
  unfold sBytes
  rw [ByteArray.data_extract, Array.toList_extract, List.extract_eq_take_drop]
theorem sBytes_nil (s : ByteArray) (a : Nat) : sBytes s a a = [] := by rw [sBytes_eq]; simp
theorem sBytes_succ (s : ByteArray) (a i : Nat) (ha : a ≤ i) (hi : i < s.size) : sBytes s a (i + 1) = sBytes s a i ++ [s[i]] := by
  rw [sBytes_eq, sBytes_eq]
  have hl : i - a < (s.data.toList.drop a).length := by rw [List.length_drop, Array.length_toList]; have : s.data.size = s.size := rfl; omega
  rw [show i + 1 - a = (i - a) + 1 by omega, List.take_succ_eq_append_getElem hl]
  congr 2
  rw [List.getElem_drop]
  have e : a + (i - a) = i := by omega
  simp only [e]
  rfl
theorem drop_at (s : ByteArray) (i : Nat) (hi : i < s.size) : s.data.toList.drop i = s[i] :: s.data.toList.drop (i + 1) := by
  have hl : i < s.data.toList.length := by rw [Array.length_toList]; exact hi
  rw [List.drop_eq_getElem_cons hl]
  rfl
theorem parts_of {c : UInt8} {s : ByteArray} {xs : List ByteArray} (h : xs.map (·.data.toList) = prtA c [] s.data.toList) : xs = parts c s := bytes_ext _ _ (by rw [h, parts_data])

set_option maxRecDepth 100000 in
theorem l01Split_any (s : ByteArray) (c : UInt8) (w : World) (hb : s.size ≤ 1048576) :
    Calls Tryd.prog 16 #[.string s, .int .u8 (c.toNat : Int)] w fun e w' => ∃ v, e = .returned v ∧ Below w.heap.size w w' ∧ w'.ownsRow w.heap.size 9 1 v (parts c s).length ((parts c s).map Value.string) := by
  obtain ⟨i0, hi, hz0, hz1, hz2⟩ := info_parts spsInfo
  obtain ⟨cn, hcn⟩ : ∃ cn, c.toNat = cn := ⟨_, rfl⟩
  have HCN := hide hcn
  rw [hcn]
  have hcl : cn < 256 := by rw [← hcn]; exact c.toNat_lt
  clear hcn
  go_enter Tryd.func16, Tryd.ntmps16
  go_wp2_with fail
  go_loopw [5, 6, 7] (fun v a i wr => ∃ (k q : Nat) (done : List ByteArray), k ≤ s.size ∧ q ≤ k ∧ done.length ≤ k ∧ a = .int .i64 q ∧ i = .int .i64 k ∧ Below w.heap.size w wr ∧ wr.ownsRow w.heap.size 9 1 v done.length (done.map Value.string) ∧ w.heap.size ≤ wr.heap.size ∧ done.map (·.data.toList) ++ prtA c (sBytes s q k) (s.data.toList.drop k) = prtA c [] s.data.toList) (fun _ _ i _ => s.size - (intOf i).toNat)
  case atStart => exact ⟨0, 0, [], Nat.zero_le _, Nat.le_refl _, Nat.le_refl _, rfl, rfl, (Below.refl _ _).alloc (Nat.le_refl _) _, by simpa using sps_empty w _, by simp, by simp [sBytes_nil]⟩
  case round =>
    obtain ⟨i, q, done, hi', hq, hd, rfl, rfl, hbe, hown, hsz, hall⟩ := hrel
    have HB := hide hbe
    have HO := hide hown
    have HALL := hide hall
    clear hbe hown hall
    by_cases hlt : i < s.size
    · have hltz : (i : Int) < s.size := by omega
      obtain ⟨b, hbv⟩ : ∃ b, s[i] = b := ⟨_, rfl⟩
      obtain ⟨bn, hbn⟩ : ∃ bn, b.toNat = bn := ⟨_, rfl⟩
      have hbl : bn < 256 := by rw [← hbn]; exact b.toNat_lt
      have HBV : Hid (sBytes s q (i + 1) = sBytes s q i ++ [b] ∧ s.data.toList.drop i = b :: s.data.toList.drop (i + 1)) := hide (by rw [← hbv]; exact ⟨sBytes_succ s q i hq hlt, drop_at s i hlt⟩)
      have hget : (s[i].toNat : Int) = bn := by rw [hbv, hbn]
      by_cases he : bn = cn
      · have HEQ : Hid (b = c) := hide (by apply UInt8.toNat_inj.1; rw [hbn, HCN.out, he])
        clear hbv hbn
        subst he
        go_wp2_with (at_builtin; refine wpList_append_own _ rfl _ _ 37 rfl w.heap.size 9 i0 (.string ByteArray.empty) 1 16 Tryd.underlying37 hi hz0 hz1 hz2 rfl (by decide) _ _ _ rfl (HO.out.alloc _) ⟨wr.heap.size, 0, none⟩ 1 1 [.string (s.extract q i)] rfl rfl ?c1 ?c2 ?c3 ?c4 ?c5 ?_)
        case c1 => exact sps_new
        case c2 => intro u hu; simp at hu; subst hu; rfl
        case c3 => unfold maxLen; omega
        case c4 => omega
        case c5 => simp; omega
        intro v' w2 hown' hgrow _
        have HO' := hide hown'
        have HGR := hide hgrow
        clear hown' hgrow
        go_wp2_with fail
        go_roundw
        case rel =>
          have hB1 : Below w.heap.size w w2 := (HB.out.alloc hsz _).grown HGR.out (by simp; omega) (fun g hg => (HO.out.alloc (.cells #[.string (s.extract q i)] 9)).lt g hg |>.1)
          refine ⟨i + 1, i + 1, done ++ [s.extract q i], by omega, Nat.le_refl _, by simp; omega, by go_num, by go_num, hB1, by simpa using HO'.out, by have := hB1.size; omega, ?_⟩
          have h := HALL.out
          rw [HBV.out.2, HEQ.out, prtA, if_pos rfl] at h
          rw [sBytes_nil, ← h]
          simp [sBytes]
        case measure => simp [intOf]; omega
      · have HEQ : Hid (¬ b = c) := hide (fun h => he (by rw [← hbn, ← HCN.out, h]))
        clear hbv hbn
        have g1 : ((bn : Int) == (cn : Int)) = false := by simpa using fun h => he (by omega)
        have g2 : ¬ (bn : Int) = (cn : Int) := by omega
        go_wp2_with fail
        go_roundw
        case rel => exact ⟨i + 1, q, done, by omega, by omega, by omega, rfl, by go_num, HB.out, HO.out, hsz, by
          have h := HALL.out
          rw [HBV.out.2, prtA, if_neg HEQ.out, ← HBV.out.1] at h
          exact h⟩
        case measure => simp [intOf]; omega
    · have hin : i = s.size := by omega
      subst hin
      go_wp2_with (at_builtin; refine wpList_append_own _ rfl _ _ 37 rfl w.heap.size 9 i0 (.string ByteArray.empty) 1 16 Tryd.underlying37 hi hz0 hz1 hz2 rfl (by decide) _ _ _ rfl (HO.out.alloc _) ⟨wr.heap.size, 0, none⟩ 1 1 [.string (s.extract q s.size)] rfl rfl ?d1 ?d2 ?d3 ?d4 ?d5 ?_)
      case d1 => exact sps_new
      case d2 => intro u hu; simp at hu; subst hu; rfl
      case d3 => unfold maxLen; omega
      case d4 => omega
      case d5 => simp; omega
      intro v' w2 hown' hgrow _
      have HO' := hide hown'
      have hB1 : Below w.heap.size w w2 := (HB.out.alloc hsz _).grown hgrow (by simp; omega) (fun g hg => (HO.out.alloc (.cells #[.string (s.extract q s.size)] 9)).lt g hg |>.1)
      have HB1 := hide hB1
      clear hown' hgrow hB1
      go_wp2_with fail
      go_ret
      have hp : done ++ [s.extract q s.size] = parts c s := parts_of (by
        rw [← HALL.out, List.map_append]
        have e : s.data.toList.drop s.size = [] := List.drop_of_length_le (by rw [Array.length_toList]; exact Nat.le_refl _)
        rw [e]
        rfl)
      refine ⟨_, rfl, HB1.out, ?_⟩
      rw [← hp]
      simpa using HO'.out
end Go.Proofs.YtkflmhmbkilmpabDoor
