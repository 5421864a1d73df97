/-
  The walks over chapter 1: DrawQuote, sameTexts.
-/
import Derived.Test.YtbdggopdhnlbfaaDoorMQ
import Derived.Test.YtbdggopdhnlbfaaDoorAS
import Derived.Test.YtbdggopdhnlbfaaDoorWR
import Derived.Test.YtbdggopdhnlbfaaDoorD1
import Derived.Test.YtbdggopdhnlbfaaDoorQT
namespace Go.Proofs.YtbdggopdhnlbfaaDoor
set_option linter.unusedVariables false
set_option linter.unusedSimpArgs false
open Go.RowKit

set_option maxHeartbeats 1000000 in
theorem sameTexts_same (w : World) (l : List ByteArray) (a b : Option Addr) (c d : Nat) (ha : RowS w a l) (hb : RowS w b l) (hl : l.length ≤ 1000000) :
    Calls Tryd.prog 40 #[.slice a l.length c, .slice b l.length d] w fun e w' => e = .returned (.bool true) ∧ Below w.heap.size w w' := by
  have heq : ((l.length : Int) == (l.length : Int)) = true := by simp
  go_enter Tryd.func40, Tryd.ntmps40
  go_wp2
  go_loopw [5] (fun i wr => ∃ k : Nat, k ≤ l.length ∧ i = .int .i64 (k : Int) ∧ Below w.heap.size w wr) (fun i _ => l.length - (intOf i).toNat)
  case atStart => exact ⟨0, Nat.zero_le _, rfl, Below.refl _ _⟩
  case round =>
    obtain ⟨k, hk, rfl, hbw⟩ := hrel
    by_cases hlt : k < l.length
    · have hI : (k : Int) < (l.length : Int) := by omega
      obtain ⟨g, rfl, hcg⟩ := (ha.later hbw).at (by omega)
      obtain ⟨g', rfl, hcg'⟩ := (hb.later hbw).at (by omega)
      have c1 := hcg k hlt
      have c2 := hcg' k hlt
      generalize l.getD k ⟨#[]⟩ = t at *
      have hnt := neT_self t
      clear hcg hcg' ha hb
      go_wp2
      go_quiet (fail)
      go_wp2
      go_round
      case rel => exact ⟨k + 1, by omega, by go_num, Below.drewNs hbw _⟩
      case measure => simp [intOf]; omega
    · have hd : decide ((k : Int) < (l.length : Int)) = false := by simp; omega
      go_wp2
      go_ret
      exact ⟨rfl, hbw⟩
end Go.Proofs.YtbdggopdhnlbfaaDoor
