/- The law LexerPlaces, walked. -/
import Derived.Test.YtdnolbbkphgfiaaDoorAwake
namespace Go.Proofs.YtdnolbbkphgfiaaDoor
open Go.RowKit

set_option maxRecDepth 100000 in
set_option maxHeartbeats 1000000 in
theorem places_walk (s : ByteArray) (p : Int) (w : World) (hs : s.size ≤ 281474976710656) (hp : -9223372036854775808 ≤ p ∧ p ≤ 9223372036854775807) (hE : Env w) :
    Calls Tryd.prog 5 #[.string s, .int .i64 p] w (Fin w) := by
  have HE := Lib.hid hE
  obtain ⟨a, b, c, hr⟩ : ∃ a b c : Int, WhereRes s p = .returned (.tuple #[.int .i64 a, .int .i64 b, .int .i64 c]) := by
    unfold WhereRes; split
    · exact ⟨_, _, _, rfl⟩
    · exact ⟨_, _, _, rfl⟩
  have H1 : Hid (∀ w, Calls Tryd.prog 20 #[.string s, .int .i64 p] w fun e w' => e = .returned (.tuple #[.int .i64 a, .int .i64 b, .int .i64 c]) ∧ w = w') := fun w => by rw [← hr]; exact Where_any s p w hs hp
  have H2 : Hid (∀ w, Calls Tryd.prog 21 #[.string s, .int .i64 p] w fun e w' => e = .returned (.tuple #[.int .i64 a, .int .i64 b, .int .i64 c]) ∧ w = w') := fun w => by rw [← hr]; exact rWhere_any s p w hs hp
  clear hE hs hp hr
  go_enter Tryd.func5, Tryd.ntmps5
  go_wp2_with fail
  refine (H1.out _).mono ?_; rintro e w' ⟨rfl, rfl⟩; go_wp2_with fail
  refine (H2.out _).mono ?_; rintro e w' ⟨rfl, rfl⟩; go_wp2_with fail
  refine (Awake_any w HE.out).mono ?_
  rintro e w3 ⟨rfl, hb⟩
  go_wp2_with fail
  go_ret
  exact ⟨rfl, hb⟩
end Go.Proofs.YtdnolbbkphgfiaaDoor
