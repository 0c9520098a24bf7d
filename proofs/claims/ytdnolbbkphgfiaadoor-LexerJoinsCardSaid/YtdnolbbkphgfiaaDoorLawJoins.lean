/- The law LexerJoins, walked. -/
import Derived.Test.YtdnolbbkphgfiaaDoorRefI
import Derived.Test.YtdnolbbkphgfiaaDoorAwake
namespace Go.Proofs.YtdnolbbkphgfiaaDoor
open Go.RowKit

set_option maxRecDepth 100000 in
set_option maxHeartbeats 1000000 in
theorem joins_walk (A : Option Addr) (c : Nat) (ts : List Rt) (w : World) (hT : Toks w A ts) (hok : ∀ t ∈ ts, t.ok) (hsz : ts.length * 40 ≤ 140737488355328) (hE : Env w) :
    Calls Tryd.prog 4 #[.slice A ts.length c] w (Fin w) := by
  obtain ⟨l, x, hx⟩ : ∃ l x, joinS ts = (l, x) := ⟨_, _, rfl⟩
  obtain ⟨s, hs⟩ : ∃ s, strB l = s := ⟨_, rfl⟩
  have HT := Lib.hid hT
  have HE := Lib.hid hE
  have H18 := Lib.hid (fun w hT hE => Join_is A c ts l x w hT hE hok hsz hx s hs)
  have H19 : Hid (∀ w, Toks w A ts → Calls Tryd.prog 19 #[.slice A ts.length c] w fun e w' => e = .returned (.tuple #[.string s, .int .i64 x]) ∧ Below w.heap.size w w') := fun w hT => (rJoin_any A c ts w hT hok hsz).mono fun e w' h => ⟨by rw [h.1, hx, ← hs]; rfl, h.2⟩
  clear hT hE hok hx hs
  go_enter Tryd.func4, Tryd.ntmps4
  go_wp2_with fail
  refine (H18.out _ HT.out HE.out).mono ?_; rintro e w1 ⟨rfl, hb⟩
  have HB1 := Lib.hid hb
  clear hb
  go_wp2_with fail
  refine (H19.out _ (HT.out.below HB1.out)).mono ?_; rintro e w2 ⟨rfl, hb⟩
  have HB2 := Lib.hid (below_call HB1.out hb)
  clear hb HB1
  go_wp2_with fail
  refine (Awake_any w2 (HE.out.below HB2.out)).mono ?_; rintro e w4 ⟨rfl, hb⟩
  have HB4 := Lib.hid (below_call HB2.out hb)
  clear hb
  go_wp2_with fail
  go_ret
  exact ⟨rfl, HB4.out⟩
end Go.Proofs.YtdnolbbkphgfiaaDoor
