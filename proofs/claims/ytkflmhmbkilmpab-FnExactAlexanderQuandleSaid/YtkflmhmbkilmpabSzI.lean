import Derived.Test.YtkflmhmbkilmpabProg
import Derived.Test.YtkflmhmbkilmpabMem
namespace Go.Proofs.Ytkflmhmbkilmpab
open Go Go.RowKit
set_option maxHeartbeats 400000


theorem sz_any (A : Option Addr) (n c : Nat) (l : Int) (w : World) (hb : n ≤ 9223372036854775807) (h0 : 0 ≤ l) (h1 : l ≤ 1048576) :
    Calls Try.prog 67 #[.slice A n c, .int .i64 l] w fun e w' => e = .returned (.int .i64 (if l < n then -1 else l - n)) ∧ w = w' := by
  by_cases h : l < n
  · go_enter Try.func67, Try.ntmps67
    go_wp2
    go_ret
    simp
  · go_enter Try.func67, Try.ntmps67
    go_wp2
    go_ret
    simp

theorem sz_no (A : Option Addr) (n c : Nat) (l : Int) (w : World) (hb : n ≤ 9223372036854775807) (h0 : 0 ≤ l) (h1 : l ≤ 1048576) (h : l < n) :
    Calls Try.prog 67 #[.slice A n c, .int .i64 l] w fun e w' => e = .returned (.int .i64 (-1)) ∧ w = w' :=
  (sz_any A n c l w hb h0 h1).mono fun _ _ hh => by rwa [if_pos h] at hh
theorem sz_yes (A : Option Addr) (n c : Nat) (l : Int) (w : World) (hb : n ≤ 9223372036854775807) (h0 : 0 ≤ l) (h1 : l ≤ 1048576) (h : ¬ l < n) :
    Calls Try.prog 67 #[.slice A n c, .int .i64 l] w fun e w' => e = .returned (.int .i64 (l - n)) ∧ w = w' :=
  (sz_any A n c l w hb h0 h1).mono fun _ _ hh => by rwa [if_neg h] at hh
end Go.Proofs.Ytkflmhmbkilmpab
