/- The law LexerNumbers, walked. -/
import Derived.Test.YtdnolbbkphgfiaaDoorRefA
import Derived.Test.YtdnolbbkphgfiaaDoorAwake
namespace Go.Proofs.YtdnolbbkphgfiaaDoor
open Go.RowKit

set_option maxRecDepth 100000 in
set_option maxHeartbeats 1000000 in
theorem numbers_walk (n : Int) (w : World) (hn : -9223372036854775808 ≤ n ∧ n ≤ 9223372036854775807) (hE : Env w) :
    Calls Tryd.prog 6 #[.int .i64 n] w (Fin w) := by
  have HE := Lib.hid hE
  have H1 := Lib.hid (Digits_any n w hn hE.2)
  have H2 := Lib.hid (fun w => rDigits_any (n.natAbs + 1) n w (by omega) hn)
  clear hE hn
  obtain ⟨t, ht⟩ : ∃ t, t = strB (Lib.itoa n) := ⟨_, rfl⟩
  rw [← ht] at H1 H2
  clear ht
  go_enter Tryd.func6, Tryd.ntmps6
  go_wp2_with fail
  refine (Wrap_any n _).mono ?_; rintro e w' ⟨rfl, rfl⟩; go_wp2_with fail
  refine (rWrap_any n _).mono ?_; rintro e w' ⟨rfl, rfl⟩; go_wp2_with fail
  refine (Calls.mono H1.out ?_); rintro e w2 ⟨rfl, hb⟩
  have HB := Lib.hid hb
  clear hb
  go_wp2_with fail
  refine (H2.out _).mono ?_; rintro e w' ⟨rfl, rfl⟩; go_wp2_with fail
  refine (Awake_any w2 (HE.out.below HB.out)).mono ?_
  rintro e w3 ⟨rfl, hb⟩
  go_wp2_with fail
  go_ret
  exact ⟨rfl, below_call HB.out hb⟩
end Go.Proofs.YtdnolbbkphgfiaaDoor
