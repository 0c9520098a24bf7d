/- The law LexerTokens, walked. -/
import Derived.Test.YtdnolbbkphgfiaaDoorRefG
namespace Go.Proofs.YtdnolbbkphgfiaaDoor
open Go.RowKit

theorem rLex_is (s : ByteArray) (xs : List Tk) (a b : Int) (w : World) (hs : s.size ≤ maxLen) (h : lexS s.data.toList = (xs, a, b)) :
    Calls Tryd.prog 15 #[.string s] w fun e w' => ∃ A c, e = .returned (.tuple #[.slice A xs.length c, .int .i64 a, .int .i64 b]) ∧ Toks w' A (xs.map rt) ∧ Below w.heap.size w w' :=
  (rLex_any s w hs).mono fun e w' ⟨v, he, ho, hb⟩ => by
    rw [h] at he ho
    obtain ⟨A, c, rfl, hT⟩ := toks_own ho
    exact ⟨A, c, he, hT, hb⟩
theorem lexS_len (l : List UInt8) : (lexS l).1.length ≤ 30001 := by
  unfold lexS
  split
  · simp
  · split
    · simp
    · have := lexF_len (l.length + 1) 0 l
      show (lexF (l.length + 1) 0 l).1.length ≤ 30001
      omega
theorem Same_toks (A B : Option Addr) (c d : Nat) (xs : List Tk) (w : World) (hA : Toks w A (xs.map rt)) (hB : Toks w B (xs.map rt)) (hl : xs.length ≤ 1000000) :
    Calls Tryd.prog 16 #[.slice A xs.length c, .slice B xs.length d] w fun e w' => e = .returned (.bool true) ∧ Below w.heap.size w w' := by
  have := Same_eq A B c d (xs.map rt) w hA hB (by rwa [List.length_map])
  rwa [List.length_map] at this

set_option maxRecDepth 100000 in
set_option maxHeartbeats 1000000 in
theorem tokens_walk (s : ByteArray) (w : World) (hs : s.size ≤ maxLen) (hE : Env w) :
    Calls Tryd.prog 3 #[.string s] w (Fin w) := by
  obtain ⟨xs, a, er, hx⟩ : ∃ xs a er, lexS s.data.toList = (xs, a, er) := ⟨_, _, _, rfl⟩
  have hlen : xs.length ≤ 30001 := by have := lexS_len s.data.toList; rwa [hx] at this
  have H1 := Lib.hid (fun w hY => Lex_is s xs a er w hY hs hx)
  have H2 := Lib.hid (fun w => rLex_is s xs a er w hs hx)
  have HE := Lib.hid hE
  clear hE hx
  go_enter Tryd.func3, Tryd.ntmps3
  go_wp2_with fail
  refine (H1.out _ HE.out.syms).mono ?_; rintro e w1 ⟨A, c, rfl, hT, hb⟩
  have HT1 := Lib.hid hT
  have HB1 := Lib.hid hb
  clear hT hb
  go_wp2_with fail
  refine (H2.out _).mono ?_; rintro e w2 ⟨B, d, rfl, hT, hb⟩
  have HT2 := Lib.hid (HT1.out.below hb)
  have HU2 := Lib.hid hT
  have HB2 := Lib.hid (below_call HB1.out hb)
  clear hT hb HT1 HB1
  go_wp2_with fail
  refine (Same_toks _ _ _ _ _ _ HT2.out HU2.out (by omega)).mono ?_; rintro e w3 ⟨rfl, hb⟩
  have HB3 := Lib.hid (below_call HB2.out hb)
  clear hb HB2 HT2 HU2
  go_wp2_with fail
  refine (Awake_any w3 (HE.out.below HB3.out)).mono ?_; rintro e w4 ⟨rfl, hb⟩
  have HB4 := Lib.hid (below_call HB3.out hb)
  clear hb
  go_wp2_with fail
  go_ret
  exact ⟨rfl, HB4.out⟩
end Go.Proofs.YtdnolbbkphgfiaaDoor
