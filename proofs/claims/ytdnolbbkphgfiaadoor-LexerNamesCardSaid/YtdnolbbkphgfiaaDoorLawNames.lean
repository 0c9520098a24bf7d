/- The law LexerNames, walked. -/
import Derived.Test.YtdnolbbkphgfiaaDoorRefB
import Derived.Test.YtdnolbbkphgfiaaDoorAwake
namespace Go.Proofs.YtdnolbbkphgfiaaDoor
open Go.RowKit

set_option maxRecDepth 100000 in
set_option maxHeartbeats 1000000 in
theorem names_walk (s : ByteArray) (w : World) (hs : s.size ≤ maxLen) (hE : Env w) :
    Calls Tryd.prog 7 #[.string s] w (Fin w) := by
  have HE := Lib.hid hE
  have H26 := Lib.hid (fun w => IsVar_any s w hs)
  have H27 := Lib.hid (fun w => rIsVar_any s w hs)
  have H28 := Lib.hid (fun w => IsUpper_any s w hs)
  have H29 := Lib.hid (fun w => rIsUpper_any s w hs)
  have H30 := Lib.hid (fun w => Keyword_any s w hs)
  clear hE
  obtain ⟨b1, e1⟩ : ∃ b, b = isV s.data.toList := ⟨_, rfl⟩
  obtain ⟨b2, e2⟩ : ∃ b, b = isNm 2 s.data.toList := ⟨_, rfl⟩
  obtain ⟨b3, e3⟩ : ∃ b, b = isKw s.data.toList := ⟨_, rfl⟩
  have H31 : Hid (∀ (A : Option Addr) (c : Nat) (w : World), StrsAt w A kwList → Calls Tryd.prog 31 #[.slice A 25 c, .string s] w fun e w' => e = .returned (.bool b3) ∧ w = w') := fun A c w h => by rw [e3]; exact HasKw A c s w h
  rw [← e1] at H26 H27
  rw [← e2] at H28 H29
  rw [← e3] at H30
  clear e1 e2 e3 hs
  go_enter Tryd.func7, Tryd.ntmps7
  go_wp2_with fail
  refine (H26.out _).mono ?_; rintro e w1 ⟨rfl, hb⟩
  have HB1 := Lib.hid hb
  clear hb
  go_wp2_with fail
  refine (H27.out _).mono ?_; rintro e w2 ⟨rfl, hb⟩
  have HB2 := Lib.hid (below_call HB1.out hb)
  clear hb HB1
  go_wp2_with fail
  refine (H28.out _).mono ?_; rintro e w3 ⟨rfl, hb⟩
  have HB3 := Lib.hid (below_call HB2.out hb)
  clear hb HB2
  go_wp2_with fail
  refine (H29.out _).mono ?_; rintro e w' ⟨rfl, rfl⟩
  go_wp2_with fail
  refine (H30.out _).mono ?_; rintro e w4 ⟨rfl, hb⟩
  have HB4 := Lib.hid (below_call HB3.out hb)
  clear hb HB3
  go_wp2_with fail
  refine (Keywords_any _).mono ?_; rintro e w5 ⟨A, c, rfl, hL, hb⟩
  have HB5 := Lib.hid (below_call HB4.out hb)
  have HL := Lib.hid hL
  clear hb HB4 hL
  go_wp2_with fail
  refine (H31.out _ _ _ HL.out).mono ?_; rintro e w' ⟨rfl, rfl⟩
  go_wp2_with fail
  refine (Awake_any w5 (HE.out.below HB5.out)).mono ?_
  rintro e w6 ⟨rfl, hb⟩
  have HB6 := Lib.hid (below_call HB5.out hb)
  clear hb
  go_wp2_with fail
  go_ret
  exact ⟨rfl, HB6.out⟩
end Go.Proofs.YtdnolbbkphgfiaaDoor
