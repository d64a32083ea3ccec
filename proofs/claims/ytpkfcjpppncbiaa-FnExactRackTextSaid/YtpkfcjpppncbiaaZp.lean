import Derived.Test.YtpkfcjpppncbiaaZh
import Derived.Test.YtpkfcjpppncbiaaZk
import Derived.Test.YtpkfcjpppncbiaaJoinLaid
import Derived.Test.YtpkfcjpppncbiaaZd
import Derived.Test.YtpkfcjpppncbiaaZf
namespace Go.Proofs.Ytpkfcjpppncbiaa
open Go Go.RowKit
set_option maxHeartbeats 1000000

theorem stInfo : (Try.prog.info? 9).map (fun i => (i.zero, i.size, i.bytes)) = some (some (.string ⟨#[]⟩), 1, 16) := by kernel_rfl

theorem ttextWI_any (A : Option Addr) (n c : Nat) (rows : List (List Int)) (s : ByteArray) (code : Int) (w : World) (hn : rows.length = n) (hb : n ≤ 1048576) (hbs : ∀ i, i < rows.length → (rows.getD i []).length ≤ 1048576) (hx : Rd2 w A rows) (hr : TTextRes rows s code) :
    Calls Try.prog 26 #[.slice A n c] w fun e w' => e = .returned (.tuple #[.string s, .int .i64 code]) ∧ Below w.heap.size w w' := by
  have HN := hide hn
  rcases hr with ⟨hp, rfl, rfl⟩ | ⟨hp, rfl, rfl⟩
  · have HP := hide hp
    have h12 : n ≤ 12 := by have := hp.2.1; omega
    have h1 : 1 ≤ n := by have := hp.1; omega
    have hmk := run_make_row' (P := Try.prog) 63 9 (.string ⟨#[]⟩) 16 Try.underlying63 stInfo rfl .i64 .i64 n (by omega) (by omega)
    clear hp hn
    go_enter Try.func26, Try.ntmps26
    go_wp2_with fail
    refine (isTable_any _ _ _ rows true _ HN.out (by omega) (fun i hi => by have := hbs i hi; omega) hx (by simp [HP.out])).mono ?_
    rintro e w1 ⟨rfl, hq1⟩
    have HQ1 := hide (hq1.below w.heap.size)
    have HS1 := hide hq1.size
    clear hq1
    go_wp2_with fail
    clear hmk
    have H1 := hide (HQ1.out.alloc (by have := HS1.out; omega) (.cells (madeCells #[.string ⟨#[]⟩] n) 9))
    obtain ⟨g, hg⟩ : ∃ g, w1.heap.size = g := ⟨_, rfl⟩
    have hg2 : w.heap.size ≤ g := by have := HS1.out; omega
    go_loopw [15] (fun i wr => ∃ k : Nat, k ≤ n ∧ i = .int .i64 k ∧ Below w.heap.size w wr ∧ PreIs wr w1.heap.size 9 n (fun i => if i < k then .string (lineS (rows.getD i [])) else .string ⟨#[]⟩)) (fun i _ => n - (intOf i).toNat)
    case atStart => exact ⟨0, Nat.zero_le _, rfl, H1.out, .of_row ((World.rowIs_made w1 _ n _).congr (fun j _ => by simp))⟩
    case round =>
      rw [hg] at hrel ⊢
      obtain ⟨k, hk, rfl, hbe, hpre⟩ := hrel
      have HB := hide hbe
      have HPR := hide hpre
      have HG := hide hg
      clear hbe hpre hg
      by_cases hlt : k < n
      · obtain ⟨b, o, rfl, hbw, hc⟩ := (hx.later HB.out) (by have := HN.out; omega)
        obtain ⟨Ak, ck, hcell, hrd⟩ := hc k (by have := HN.out; omega)
        have hrl := HP.out.rows k (by have := HN.out; omega)
        have hdig := HP.out.dig k (by have := HN.out; omega)
        rw [HN.out] at hrl
        obtain ⟨r, hr'⟩ : ∃ r, r = rows.getD k [] := ⟨_, rfl⟩
        rw [← hr'] at hcell hrd hrl hdig
        rw [hrl] at hcell
        have HR := hide hr'
        have HL := hide hrl
        have HD := hide hdig
        clear hr' hc hrl hdig hbs
        have hltz : (k : Int) < n := by omega
        go_wp2_with fail
        refine (digitsOf_any _ _ _ r _ HL.out (by omega) hrd HD.out).mono ?_
        rintro e w2 ⟨rfl, hq2⟩
        have HQ2 := hide hq2
        have HPR2 := hide (HPR.out.of_block (hq2.block g HPR.out.lt))
        have h2 := HPR2.out.cell hlt
        simp only [Nat.lt_irrefl, if_false] at h2
        have h3 := HPR2.out.frozen k
        clear hq2
        go_wp2_with fail
        go_roundw
        case rel =>
          refine ⟨k + 1, by omega, by go_num, ((HB.out.trans (HQ2.out.mono HB.out.size))).setCell (p := ⟨g, k, none⟩) hg2 _, ?_⟩
          refine (HPR2.out.set k _).congr (fun i _ => ?_)
          by_cases e : i = k
          · subst e; rw [if_pos rfl, if_pos (by omega), HR.out]
          · rw [if_neg e]
            by_cases e2 : i < k
            · rw [if_pos e2, if_pos (by omega)]
            · rw [if_neg e2, if_neg (by omega)]
        case measure => simp [intOf]; omega
      · have hkn : k = n := by omega
        subst hkn
        have hlen : (rows.map lineS).length = k := by rw [List.length_map]; exact HN.out
        have ej : (rows.map lineS).map (·.data.toList) = rows.map fun r => (lineS r).data.toList := by rw [List.map_map]; rfl
        have hj := Try.strings_Join g 0 k (rows.map lineS) ⟨#[47]⟩ wr (fun j x hjx => by
            have hjl : j < rows.length := by
              have := (List.getElem?_eq_some_iff.1 hjx).1
              rw [List.length_map] at this
              exact this
            rw [Nat.zero_add, HPR.out.cell (by have := HN.out; omega), if_pos (by have := HN.out; omega)]
            have e : (rows.map lineS)[j]? = some (lineS (rows.getD j [])) := by simp [hjl]
            rw [e] at hjx
            injection hjx with hjx
            rw [hjx]) HPR.out.lt (by omega) (by omega) (by
            rw [ej]
            have h := tabS_size rows 12 (fun i hi => by have := HP.out.rows i hi; have := HP.out.2.1; omega) rows.length (Nat.le_refl _)
            have h2 : (tabS (rows.take rows.length)).size = (tabT rows).length := by rw [List.take_length]; simp [tabS, ByteArray.size]
            have h3 : tabT rows = Lib.join (rows.map fun r => (lineS r).data.toList) [47] := rfl
            have h4 : rows.length * 13 ≤ 12 * 13 := Nat.mul_le_mul_right _ HP.out.2.1
            show (Lib.join (rows.map fun r => (lineS r).data.toList) [47]).length ≤ _
            rw [← h3]
            omega)
        rw [hlen, ej] at hj
        have HJ := hide hj
        clear hj hlen ej
        go_wp2_with fail
        refine HJ.out.mono ?_
        rintro e w2 ⟨rfl, hq2⟩
        have HQ2 := hide hq2
        clear hq2
        obtain ⟨z, hz⟩ : ∃ z, z = tabS rows := ⟨_, rfl⟩
        have HZ := hide hz
        have e : (⟨(Lib.join (rows.map fun r => (lineS r).data.toList) (⟨#[47]⟩ : ByteArray).data.toList).toArray⟩ : ByteArray) = z := by rw [hz]; rfl
        rw [e]
        clear hz e
        go_wp2_with fail
        go_ret2
        exact ⟨by have h := HZ.out; subst h; rfl, HB.out.trans (HQ2.out.mono HB.out.size)⟩
  · have HP := hide hp
    clear hp
    go_enter Try.func26, Try.ntmps26
    go_wp2_with fail
    refine (isTable_any _ _ _ rows false _ HN.out (by omega) (fun i hi => by have := hbs i hi; omega) hx (by simp [HP.out])).mono ?_
    rintro e w1 ⟨rfl, hq1⟩
    have HQ1 := hide (hq1.below w.heap.size)
    clear hq1
    go_wp2_with fail
    go_ret2
    exact ⟨rfl, HQ1.out⟩
end Go.Proofs.Ytpkfcjpppncbiaa
namespace Go.Proofs.Ytpkfcjpppncbiaa
open Go Go.RowKit
set_option maxHeartbeats 1000000

theorem l01Text_any (A : Option Addr) (n c : Nat) (rows : List (List Int)) (w : World) (hn : rows.length = n) (hT : Tbl rows) (hr : Rd2 w A rows) :
    Calls Try.prog 23 #[.slice A n c] w fun e w' => e = .returned (.string (tabS rows)) ∧ Below w.heap.size w w' := by
  have HN := hide hn
  have HT := hide hT
  have h12 : n ≤ 12 := by have := hT.2.1; omega
  clear hn hT
  go_enter Try.func23, Try.ntmps23
  go_wp2_with fail
  go_loopw [3, 4] (fun s i wr => ∃ (k : Nat) (a : ByteArray), k ≤ n ∧ i = .int .i64 k ∧ s = .string a ∧ Hid (a = tabS (rows.take k)) ∧ a.size ≤ 1000 ∧ Below w.heap.size w wr) (fun _ i _ => n - (intOf i).toNat)
  case atStart => exact ⟨0, _, Nat.zero_le _, rfl, rfl, hide (by simp [tabS, tabT, Lib.join_nil]), by simp [ByteArray.size], Below.refl _ _⟩
  case round =>
    obtain ⟨k, a, hk, rfl, rfl, HA, has, hbe⟩ := hrel
    have HB := hide hbe
    clear hbe
    by_cases hlt : k < n
    · obtain ⟨b, o, rfl, hbw, hc⟩ := (hr.later HB.out) (by have := HN.out; omega)
      obtain ⟨Ak, ck, hcell, hrd⟩ := hc k (by have := HN.out; omega)
      have hrl := HT.out.rows k (by have := HN.out; omega)
      have hdig := HT.out.dig k (by have := HN.out; omega)
      rw [HN.out] at hrl
      obtain ⟨r, hr'⟩ : ∃ r, r = rows.getD k [] := ⟨_, rfl⟩
      rw [← hr'] at hcell hrd hrl hdig
      rw [hrl] at hcell
      have HR := hide hr'
      have HL := hide hrl
      have HD := hide hdig
      clear hr' hc hrl hdig
      have hltz : (k : Int) < n := by omega
      have hds := lineS_size r
      obtain ⟨d, hd⟩ : ∃ d, lineS r = d := ⟨_, rfl⟩
      rw [hd] at hds
      have hds' : d.size ≤ 12 := by have := HL.out; omega
      have HDD := hide hd
      clear hds hd
      have hsz : ∀ k, k ≤ n → (tabS (rows.take k)).size ≤ 1000 := fun k hk => by
        have h := tabS_size rows 12 (fun i hi => by have := HT.out.rows i hi; have := HT.out.2.1; omega) k (by have := HN.out; omega)
        have : k * 13 ≤ 12 * 13 := Nat.mul_le_mul_right _ (by omega)
        omega
      have HSZ := hide hsz
      clear hsz
      by_cases h0 : k = 0
      · subst h0
        have hcell0 : wr.cell? ⟨b, o, none⟩ = some (.slice Ak n ck) := by simpa using hcell
        clear hcell
        go_wp2_with fail
        refine (l01Line_any _ _ _ r _ HL.out (by omega) hrd HD.out).mono ?_
        rintro e w1 ⟨rfl, hq1⟩
        have HQ1 := hide hq1
        rw [HDD.out]
        clear hq1
        go_wp2_with fail
        go_roundw
        case rel =>
          have e : a ++ d = tabS (rows.take 1) := by
            have h := HA.out
            rw [List.take_zero] at h
            have h2 : tabS [] = ⟨#[]⟩ := rfl
            rw [h, h2, ← HDD.out, HR.out, tabS_first rows (by have := HN.out; omega)]
          refine ⟨1, _, by omega, by go_num, rfl, hide e, ?_, HB.out.trans (HQ1.out.mono HB.out.size)⟩
          rw [e]
          exact HSZ.out 1 (by omega)
        case measure => simp [intOf]; omega
      · have h0z : (0 : Int) < k := by omega
        have H0 := hide h0
        clear h0
        go_wp2_with fail
        refine (l01Line_any _ _ _ r _ HL.out (by omega) hrd HD.out).mono ?_
        rintro e w1 ⟨rfl, hq1⟩
        have HQ1 := hide hq1
        rw [HDD.out]
        clear hq1
        have hs47 : (⟨#[47]⟩ : ByteArray).size = 1 := rfl
        go_wp2_with fail
        go_roundw
        case rel =>
          have e : (a ++ ⟨#[47]⟩) ++ d = tabS (rows.take (k + 1)) := by rw [HA.out, ← HDD.out, HR.out, tabS_step rows k (by have := HN.out; omega) H0.out]
          refine ⟨k + 1, _, by omega, by go_num, rfl, hide e, ?_, HB.out.trans (HQ1.out.mono HB.out.size)⟩
          rw [e]
          exact HSZ.out (k + 1) (by omega)
        case measure => simp [intOf]; omega
    · have hkn : k = n := by omega
      subst hkn
      go_wp2_with fail
      go_ret
      have h := HA.out
      rw [List.take_of_length_le (by have := HN.out; omega)] at h
      exact ⟨by rw [← h]; rfl, HB.out⟩
end Go.Proofs.Ytpkfcjpppncbiaa
